import Derived.Test.YtmdkgiglibfihaaRfK
import Derived.Test.YtmdkgiglibfihaaApp
set_option linter.unusedVariables false
set_option linter.unusedSimpArgs false
namespace Go.Proofs.Ytmdkgiglibfihaa
open Go.RowKit Go.Maps
namespace I
theorem add_off (b off n : Nat) : (⟨b, off, none⟩ : Addr).add n = ⟨b, off + n, none⟩ := by unfold Addr.add; split <;> simp_all
/-- append of a slice of numbers onto nothing -/
theorem wpList_appS (w : World) {ops : Array Oper} {rest : List Oper} {o : Oper} {a : Act} {Q : Exit → Act → World → Prop} (hw : Region.wanted o (yielded ops a.tmps) = true) (s x : Operand)
    (ho : o.op = .call { callee := .builtin .append, args := #[s, x], argTypes := #[43, 43] }) (B : Nat) (ro : Option Addr) (rc : Nat) (row : List Int) (hs : a.eval s = .slice none 0 0) (hx : a.eval x = .slice ro row.length rc) (hI : Ints ro row w) (hn : ro = none → rc = 0) (hb : Hid (row.length < 4398046511104)) (hB : B ≤ w.heap.size)
    (h : ∀ o' c w', RowI B o' c row w' → Below w.heap.size w w' → wpList Try.prog ops Q rest (a.put o.dst (.slice o' row.length c)) w') :
    wpList Try.prog ops Q (o :: rest) a w := by
  obtain ⟨i0, hi, hz0, hz1, hz2⟩ := info_parts infoE
  have hrow : w.ownsRow B 3 1 (.slice none 0 0) 0 [] := World.ownsRow_nil _ _ _ _
  refine wpList_append_src hw s x 43 ho B 3 i0 (.int .i64 0) 1 8 Try.underlying43 hi hz0 hz1 hz2 rfl (by decide) (.slice none 0 0) 0 [] hs hrow ro row.length rc (row.flatMap cells) hx (fun q => ?_) (by rw [flat_len, Nat.mul_one]) (fun ad q j u hj => ?_) (fun u hu => ?_) (by have := hb.out; unfold maxLen; omega) (by have := hb.out; omega) hB ?_
  · refine ⟨?_, hn q⟩
    rcases hI with rfl | ⟨b, off, e, _⟩
    · rfl
    · rw [q] at e; cases e
  · rw [flat_at] at hj
    cases hk : row[j]? with
    | none => rw [hk] at hj; cases hj
    | some k =>
      rw [hk] at hj
      obtain ⟨b, off, e, _, hc⟩ := hI.at hk
      rw [q] at e; cases e
      rw [add_off, hc]; exact hj
  · rw [flat_map] at hu
    obtain ⟨k, _, rfl⟩ := List.mem_map.1 hu
    rfl
  · intro v' w' hr hg hat
    simp only [Nat.zero_add, List.nil_append] at hr
    have hbel : Below w.heap.size w w' := ⟨hg.os, hg.tape, hg.output, hg.size, fun k hk => hg.block k hk (by simp [Value.ownBlock])⟩
    have hf : ∃ o' c, v' = .slice o' row.length c := by
      rcases hr.2 with ⟨hv, h0⟩ | ⟨g, cap', cur, hv, _⟩
      · exact ⟨none, 0, by rw [h0]; exact hv⟩
      · exact ⟨_, _, hv⟩
    obtain ⟨o', c, rfl⟩ := hf
    exact h o' c w' hr hbel
/-- the four marked places -/
def m4 : List Int := [-7, -7, -7, -7]
theorem wpList_app4 (w0 : World) {ops : Array Oper} {rest : List Oper} {o : Oper} {a : Act} {Q : Exit → Act → World → Prop} (hgd : o.guard = none) (s x : Operand)
    (ho : o.op = .call { callee := .builtin .append, args := #[s, x], argTypes := #[43, 43] }) (B : Nat) (ao : Option Addr) (cap : Nat) (zs : List Int) (t : TypeId) (c : Nat) (hs : a.eval s = .slice ao zs.length cap) (hrow : RowI B ao cap zs w0)
    (hx : a.eval x = .slice (some ⟨w0.heap.size, 0, none⟩) 4 c) (hb : Hid (zs.length < 4398046511104)) (hB : B ≤ w0.heap.size)
    (h : ∀ g cap' w', RowI B (some ⟨g, 0, none⟩) cap' (zs ++ m4) w' → Turn (At ao) w0 w' → (ao = some ⟨g, 0, none⟩ ∨ w0.heap.size ≤ g) → g < w'.heap.size → wpList Try.prog ops Q rest (a.put o.dst (.slice (some ⟨g, 0, none⟩) (zs.length + 4) cap')) w') :
    wpList Try.prog ops Q (o :: rest) a (w0.alloc (.cells #[.int .i64 (-7), .int .i64 (-7), .int .i64 (-7), .int .i64 (-7)] t)) := by
  obtain ⟨i0, hi, hz0, hz1, hz2⟩ := info_parts infoE
  refine wpList_append_lies _ hgd s x 43 ho B 3 i0 (.int .i64 0) 1 8 Try.underlying43 hi hz0 hz1 hz2 rfl (by decide) _ _ _ hs (World.ownsRow.alloc hrow _) ⟨w0.heap.size, 0, none⟩ 4 c [.int .i64 (-7), .int .i64 (-7), .int .i64 (-7), .int .i64 (-7)] hx rfl (fun j u hu => World.news_of_block (heap_alloc_new w0 _) j u (by simpa using hu)) (by simp [Value.oneCell']) (by decide) (by have := hb.out; unfold maxLen; omega) (by have := hb.out; omega) (by simp; omega) (w0.heap.size + 1) (by simp) ?_
  intro g cap' w1 hrow1 hgrow hat hlt
  refine h g cap' w1 ?_ (((Turn.refl _ w0).alloc _).grown hgrow (fun j hj _ => by
    cases ao with
    | none => cases hj
    | some ad => exact ⟨ad, rfl, by simpa [Value.ownBlock] using hj.symm⟩)) ?_ hlt
  · unfold RowI; rw [List.length_append, List.flatMap_append]; simpa [cells, m4] using hrow1
  · rcases hat with q | q
    · cases ao with
      | none => cases q
      | some ad =>
        left
        rcases hrow.form with ⟨e, _⟩ | ⟨g', e, _⟩
        · cases e
        · cases e; simp only [Value.ownBlock, Option.some.injEq] at q; rw [q]
    · right; omega
theorem infoR : (Try.prog.info? 43).map (fun i => (i.zero, i.size, i.bytes)) = some (some (.slice none 0 0), 1, 24) := by kernel_rfl
/-- append of one slice onto a row of slices -/
theorem wpList_appR (w0 : World) {ops : Array Oper} {rest : List Oper} {o : Oper} {a : Act} {Q : Exit → Act → World → Prop} (hgd : o.guard = none) (s x : Operand)
    (ho : o.op = .call { callee := .builtin .append, args := #[s, x], argTypes := #[44, 44] }) (B : Nat) (ao : Option Addr) (cap n : Nat) (vs : List Value) (ro : Option Addr) (rl rc : Nat) (t : TypeId) (c : Nat) (hs : a.eval s = .slice ao n cap) (hrow : w0.ownsRow B 43 1 (.slice ao n cap) n vs)
    (hx : a.eval x = .slice (some ⟨w0.heap.size, 0, none⟩) 1 c) (hb : Hid (n < 1099511627776)) (hB : B ≤ w0.heap.size)
    (h : ∀ g cap' w', w'.ownsRow B 43 1 (.slice (some ⟨g, 0, none⟩) (n + 1) cap') (n + 1) (vs ++ [.slice ro rl rc]) → Turn (At ao) w0 w' → (ao = some ⟨g, 0, none⟩ ∨ w0.heap.size ≤ g) → g < w'.heap.size → wpList Try.prog ops Q rest (a.put o.dst (.slice (some ⟨g, 0, none⟩) (n + 1) cap')) w') :
    wpList Try.prog ops Q (o :: rest) a (w0.alloc (.cells #[.slice ro rl rc] t)) := by
  obtain ⟨i0, hi, hz0, hz1, hz2⟩ := info_parts infoR
  refine wpList_append_lies _ hgd s x 44 ho B 43 i0 (.slice none 0 0) 1 24 Try.underlying44 hi hz0 hz1 hz2 rfl (by decide) _ _ _ hs (World.ownsRow.alloc hrow _) ⟨w0.heap.size, 0, none⟩ 1 c [.slice ro rl rc] hx rfl (cell_one_new _ _ _) (by simp [Value.oneCell']) (by decide) (by have := hb.out; unfold maxLen; omega) (by have := hb.out; omega) (by simp; omega) (w0.heap.size + 1) (by simp) ?_
  intro g cap' w1 hrow1 hgrow hat hlt
  refine h g cap' w1 hrow1 (((Turn.refl _ w0).alloc _).grown hgrow (fun j hj _ => by
    cases ao with
    | none => cases hj
    | some ad => exact ⟨ad, rfl, by simpa [Value.ownBlock] using hj.symm⟩)) ?_ hlt
  rcases hat with q | q
  · cases ao with
    | none => cases q
    | some ad =>
      left
      rcases hrow.2 with ⟨e, _⟩ | ⟨g', cap'', cur, e, _⟩
      · cases e
      · cases e; simp only [Value.ownBlock, Option.some.injEq] at q; rw [q]
  · right; omega
/-- ROWS OF ONE'S OWN, four marked places behind each: all in blocks from B on and below C -/
def RowsV (B C : Nat) (ao : Option Addr) (cap : Nat) (tbl : List (List Int)) (vs : List Value) (w : World) : Prop :=
  w.ownsRow B 43 1 (.slice ao tbl.length cap) tbl.length vs ∧ C ≤ w.heap.size ∧ (∀ j, At ao j → j < C) ∧ ∀ (i : Nat) (row : List Int), tbl[i]? = some row → ∃ g rc, vs[i]? = some (Value.slice (some ⟨g, 0, none⟩) row.length rc) ∧ RowI B (some ⟨g, 0, none⟩) rc (row ++ m4) w ∧ g < C ∧ ¬ At ao g
def Rows (B C : Nat) (ao : Option Addr) (cap : Nat) (tbl : List (List Int)) (w : World) : Prop := ∃ vs, RowsV B C ao cap tbl vs w
theorem Rows.turn {S : Nat → Prop} {B C : Nat} {ao : Option Addr} {cap : Nat} {tbl : List (List Int)} {w w' : World} (h : Rows B C ao cap tbl w) (t : Turn S w w') (hS : ∀ j, B ≤ j → j < C → ¬ S j) : Rows B C ao cap tbl w' := by
  obtain ⟨vs, h1, h2, h3, h4⟩ := h
  refine ⟨vs, t.row h1 (fun g hg => ?_), Nat.le_trans h2 t.size, h3, fun i row q => ?_⟩
  · rcases h1.2 with ⟨e, _⟩ | ⟨g', cap', cur, e, hb, _⟩
    · simp only [Value.slice.injEq] at e; rw [e.1] at hg; cases hg
    · simp only [Value.slice.injEq] at e; rw [e.1] at hg h3; cases hg; exact hS _ hb (h3 _ ⟨_, rfl, rfl⟩)
  · obtain ⟨g, rc, a1, a2, a3, a4⟩ := h4 i row q
    exact ⟨g, rc, a1, a2.turn t (fun j hj => by
      obtain ⟨a, e, rfl⟩ := hj; cases e
      exact hS _ (a2.lt g ⟨_, rfl, rfl⟩).1 a3), a3, a4⟩
theorem Rows.at {B C : Nat} {ao : Option Addr} {cap : Nat} {tbl : List (List Int)} {w : World} (h : Rows B C ao cap tbl w) {i : Nat} {row : List Int} (q : tbl[i]? = some row) : ∃ b g rc, ao = some ⟨b, 0, none⟩ ∧ B ≤ b ∧ b < C ∧ tbl.length ≤ cap ∧ w.cell? ⟨b, i, none⟩ = some (.slice (some ⟨g, 0, none⟩) row.length rc) ∧ RowI B (some ⟨g, 0, none⟩) rc (row ++ m4) w ∧ g < C := by
  obtain ⟨vs, h1, h2, h3, h4⟩ := h
  obtain ⟨g, rc, a1, a2, a3, a4⟩ := h4 i row q
  rcases h1.2 with ⟨e, h0⟩ | ⟨b, cap', cur, e, hb, hg, k1, k2, k3, k4⟩
  · rw [List.length_eq_zero_iff] at h0; rw [h0] at q; simp at q
  · simp only [Value.slice.injEq] at e
    obtain ⟨rfl, _, rfl⟩ := e
    refine ⟨b, g, rc, rfl, hb, h3 _ ⟨_, rfl, rfl⟩, k1, ?_, a2, a3⟩
    rw [Lib.cell_of_heap hg]
    have hl := (List.getElem?_eq_some_iff.1 q).1
    rw [← k4, List.getElem?_take_of_lt (by omega), Array.getElem?_toList] at a1
    exact a1
theorem RowsV.nil (B : Nat) (w : World) : RowsV B w.heap.size none 0 [] [] w := ⟨World.ownsRow_nil _ _ _ _, Nat.le_refl _, fun j => by rintro ⟨a, e, _⟩; (cases e), fun i row q => by simp at q⟩
/-- one more: a new row, then the append of its slice -/
theorem RowsV.grown {B : Nat} {ao : Option Addr} {cap : Nat} {tbl : List (List Int)} {row : List Int} {vs : List Value} {w w1 w2 : World} {g rc gb cap2 : Nat} (h : RowsV B w.heap.size ao cap tbl vs w) (t1 : Below w.heap.size w w1) (hr : RowI B (some ⟨g, 0, none⟩) rc (row ++ m4) w1) (hg : w.heap.size ≤ g)
    (hrow : w2.ownsRow B 43 1 (.slice (some ⟨gb, 0, none⟩) (tbl.length + 1) cap2) (tbl.length + 1) (vs ++ [.slice (some ⟨g, 0, none⟩) row.length rc])) (t2 : Turn (At ao) w1 w2) (hgb : ao = some ⟨gb, 0, none⟩ ∨ w1.heap.size ≤ gb) (hlt : gb < w2.heap.size) : RowsV B w2.heap.size (some ⟨gb, 0, none⟩) cap2 (tbl ++ [row]) (vs ++ [.slice (some ⟨g, 0, none⟩) row.length rc]) w2 := by
  obtain ⟨h1, h2, h3, h4⟩ := h
  have lv : vs.length = tbl.length := by simpa using h1.1
  have s1 := t1.size
  have s2 := t2.size
  have lg := (hr.lt g ⟨_, rfl, rfl⟩).2
  refine ⟨by rw [List.length_append]; exact hrow, Nat.le_refl _, ?_, fun i r q => ?_⟩
  · rintro j ⟨a, e, rfl⟩; cases e; exact hlt
  · rcases Nat.lt_or_ge i tbl.length with hi | hi
    · rw [List.getElem?_append_left hi] at q
      obtain ⟨g', rc', a1, a2, a3, a4⟩ := h4 i r q
      refine ⟨g', rc', by rw [List.getElem?_append_left (by omega)]; exact a1, (a2.below t1).turn t2 (fun j hj => ?_), by omega, ?_⟩
      · obtain ⟨a, e, rfl⟩ := hj; cases e; exact a4
      · rintro ⟨a, e, q⟩; cases e
        simp at q
        rcases hgb with r | r
        · exact a4 ⟨_, r, q⟩
        · omega
    · have hi2 : i = tbl.length := by
        have := (List.getElem?_eq_some_iff.1 q).1
        simp at this; omega
      subst hi2
      have er : r = row := by simpa using q.symm
      subst er
      refine ⟨g, rc, by rw [← lv]; simp, hr.turn t2 (fun j hj q => ?_), by omega, ?_⟩
      · obtain ⟨a, e, rfl⟩ := hj; cases e
        have := h3 _ q; simp at this; omega
      · rintro ⟨a, e, q⟩; cases e
        simp at q
        rcases hgb with r | r
        · have := h3 gb ⟨_, r, rfl⟩; omega
        · omega
theorem fst4 {B n : Nat} {ao o3 : Option Addr} {cap c3 : Nat} {tb : List (List Int)} {row : List Int} {vs : List Value} {wr w3 w4 : World} (hn : tb.length = n) (hV : RowsV B wr.heap.size ao cap tb vs wr) (b3 : Below wr.heap.size wr w3) (r3 : RowI wr.heap.size o3 c3 row w3) (t4 : Turn (At o3) w3 w4) :
    w4.ownsRow B 43 1 (.slice ao n cap) n vs ∧ Below wr.heap.size wr w4 := by
  subst hn
  have s3 := b3.size
  refine ⟨t4.row ((below_turn b3).row hV.1 (fun _ _ q => q)) (fun g hg q => ?_), b3.trans (below_of t4 (fun j hj q => ?_) s3)⟩
  · have h1 := (r3.lt g q).1
    cases ao with
    | none => cases hg
    | some a => have := hV.2.2.1 a.block ⟨a, rfl, rfl⟩; simp [Value.ownBlock] at hg; omega
  · have h1 := (r3.lt j q).1; omega
/-- what rows tells -/
def RowsIs (tbl : List (List Int)) (w : World) (e : Ending) (w' : World) : Prop := ∃ ao cap, e = .returned (.slice ao tbl.length cap) ∧ Rows w.heap.size w'.heap.size ao cap tbl w' ∧ Below w.heap.size w w'
set_option maxHeartbeats 8000000 in
set_option maxRecDepth 100000 in
theorem rows_any (to : Option Addr) (tcap : Nat) (tbl : List (List Int)) (w : World) (hT : Tbl to tbl (fun _ => False) w) (htc : tbl.length ≤ tcap) (hlen : Hid (tbl.length < 1099511627776 ∧ ∀ row ∈ tbl, row.length < 1099511627776)) :
    Calls Try.prog 28 #[.slice to tbl.length tcap] w fun e w' => RowsIs tbl w e w' := by
  have HT := hide' hT
  clear hT
  go_enter Try.func28, Try.ntmps28
  go_wp2_with fail
  go_loopw [3, 4] (fun l i wx => ∃ k : Nat, k ≤ tbl.length ∧ i = .int .i64 (k : Int) ∧ ∃ ao cap vs, l = .slice ao k cap ∧ RowsV w.heap.size wx.heap.size ao cap (tbl.take k) vs wx ∧ Below w.heap.size w wx) (fun _ i _ => tbl.length - (intOf i).toNat)
  case atStart => exact ⟨0, by omega, rfl, none, 0, [], rfl, RowsV.nil _ _, Below.refl _ _⟩
  case round =>
    obtain ⟨k, hkl, rfl, ao, cap, vs, rfl, hV, hB⟩ := hrel
    by_cases hlt : k < tbl.length
    · have hlt' : (k : Int) < (tbl.length : Int) := by omega
      have hk64 : (k : Int) < 1099511627776 := by have := hlen.out.1; omega
      obtain ⟨row, hrow⟩ : ∃ row, tbl[k]? = some row := ⟨_, List.getElem?_eq_getElem hlt⟩
      obtain ⟨tb, off, ro, rc, rfl, htb, tcell, hrc, hI, hro⟩ := (HT.out.turn (below_turn hB) (fun _ _ q => q)).at hrow
      have htb0 : tb < w.heap.size := by
        rcases HT.out with e | ⟨b, off', e, h, _⟩
        · rw [e] at hrow; simp at hrow
        · cases e; exact h
      have hrl : Hid (row.length < 1099511627776) := hlen.out.2 row (List.mem_of_getElem? hrow)
      have htk : Hid (tbl.take (k + 1) = tbl.take k ++ [row]) := by
        show _ = _
        rw [List.take_add_one, hrow]; rfl
      have hln : Hid ((tbl.take k).length = k) := by show _ = _; simp; omega
      have hwz := hB.size
      have hr64 : (row.length : Int) < 1099511627776 := by have := hrl.out; omega
      obtain ⟨hrc1, hrc2⟩ := hrc
      have HI := hide' (And.intro hI hrc2)
      have HV := hide' (And.intro hV hB)
      have hKS := hide' hk64
      clear hI hro hrow hV hB hrc2
      go_wp2_with (first | (have G := E4; at_builtin; refine wpList_appR _ rfl _ _ rfl w.heap.size ao cap k vs (some ⟨g2, 0, none⟩) row.length cap2 _ _ rfl E4.out.1.1 rfl (by show _ < _; omega) (by have := E4.out.1.2.size; omega) ?_; intro g5 cap5 w5 r5 t5 hg5 hl5; have E5 := hide' (And.intro r5 (And.intro t5 (And.intro hg5 hl5))); clear r5 t5 hg5 hl5) | (have G := E3; at_builtin; refine wpList_app4 _ rfl _ _ rfl wr.heap.size o3 c3 row _ _ rfl E3.out.1 rfl (by have := hrl.out; show _ < _; omega) E3.out.2.size ?_; intro g2 cap2 w4 r4 t4 hg4 hl4; have hcl : row.length + 4 ≤ cap2 := (by have := r4.cap; simpa [m4] using this); have tcell4 : w4.cell? ⟨tb, off + k, none⟩ = some (.slice ro row.length rc) := (t4.cell (p := ⟨tb, off + k, none⟩) (by have := E3.out.2.size; simp; omega) (fun q => by have := (E3.out.1.lt _ q).1; simp at this; omega)).trans tcell3; have E4 := hide' (And.intro (fst4 hln.out HV.out.1 E3.out.2 E3.out.1 t4) r4); clear r4 t4 hg4 hl4 tcell3) | (at_builtin; refine wpList_appS _ rfl _ _ rfl wr.heap.size ro rc row rfl rfl HI.out.1 HI.out.2 (by have := hrl.out; show _ < _; omega) (Nat.le_refl _) ?_; intro o3 c3 w3 r3 b3; have E3 := hide' (And.intro r3 b3); have tcell3 : w3.cell? ⟨tb, off + k, none⟩ = some (.slice ro row.length rc) := (b3.cell (p := ⟨tb, off + k, none⟩) htb).trans tcell; clear r3 b3 tcell))
      have hR := RowsV.grown HV.out.1 E4.out.1.2 (E4.out.2.mono hwz) (E4.out.2.lt g2 ⟨_, rfl, rfl⟩).1 (by rw [hln.out]; exact E5.out.1) E5.out.2.1 E5.out.2.2.1 E5.out.2.2.2
      have hb : Below w.heap.size w w5 := by
        have b4 := E4.out.1.2
        have s4 := b4.size
        refine HV.out.2.trans (Below.trans ⟨b4.os, b4.tape, b4.output, b4.size, fun j hj => b4.block j (by omega)⟩ (below_of E5.out.2.1 (fun j hj q => ?_) (by omega)))
        rcases HV.out.1.1.2 with ⟨e, _⟩ | ⟨g', cap', cur, e, hb', _⟩
        · cases ao with
          | none => obtain ⟨a, e2, _⟩ := q; cases e2
          | some a => cases e
        · simp only [Value.slice.injEq] at e
          obtain ⟨a, e2, rfl⟩ := q
          rw [e.1] at e2; cases e2
          simp at hj; omega
      exact ⟨⟨k + 1, by omega, by go_num, some ⟨g5, 0, none⟩, cap5, _, rfl, by rw [htk.out]; exact hR, hb⟩, by simp [intOf]; omega⟩
    · have hkl : k = tbl.length := by omega
      subst hkl
      have hlt' : ¬ (tbl.length : Int) < (tbl.length : Int) := by omega
      have K : Hid (RowsIs tbl w (.returned (.slice ao tbl.length cap)) wr) := ⟨ao, cap, rfl, ⟨vs, by simpa using hV⟩, hB⟩
      clear hV hB
      go_wp2
      go_ret
      exact K.out
end I
end Go.Proofs.Ytmdkgiglibfihaa
