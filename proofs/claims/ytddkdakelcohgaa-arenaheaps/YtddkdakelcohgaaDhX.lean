import Derived.Test.YtddkdakelcohgaaDhW
set_option linter.unusedVariables false
set_option linter.unusedSimpArgs false
namespace Go.Proofs.Ytddkdakelcohgaa
open Go.RowKit Go.Sort
namespace Dh
open Th Hp
variable {B b off : Nat} {ao : Option Addr} {cap : Nat} {ds : List (Int × Int)} {w w' : World}
/-- what a call leaves of the document's heap -/
def DL (B b off : Nat) (ao : Option Addr) (ds : List (Int × Int)) (w w' : World) : Prop := ∃ ao' cap', Dm B b off ao' cap' ds w' ∧ Turn (Own b ao) w w' ∧ (∀ j, M.At ao' j → M.At ao j ∨ w.heap.size ≤ j) ∧ ∀ k, k ≠ off → w'.cell? ⟨b, k, none⟩ = w.cell? ⟨b, k, none⟩
theorem DT.dl (h : Dm B b off ao cap ds w) {ds' : List (Int × Int)} (t : DT B b off ao ds' w w') : DL B b off ao ds' w w' := by
  have tt := t.turn
  obtain ⟨ao', cap', w1, hd, t1, rfl, ha⟩ := t
  refine ⟨ao', cap', hd, tt, ha, fun k hk => ?_⟩
  rw [World.cell?_setCell_other _ _ _ _ (fun q => hk (by simpa using (congrArg Addr.off q).symm))]
  exact t1.cell (p := ⟨b, k, none⟩) h.lt (fun q => h.ne b q rfl)
theorem put_dm {ds' : List (Int × Int)} {ao' : Option Addr} {cap' : Nat} {w1 : World} (h : Dm B b off ao cap ds w) (t : Turn (M.At ao) w w1) (hr : w1.ownsRow B 52 2 (.slice ao' ds'.length cap') ds'.length (ds'.flatMap tc)) (hne : ∀ j, M.At ao' j → j ≠ b) : Dm B b off ao' cap' ds' (w1.setCell ⟨b, off, none⟩ (.slice ao' ds'.length cap')) := by
  have hlt : b < w1.heap.size := Nat.lt_of_lt_of_le h.lt t.size
  have c1 : w1.cell? ⟨b, off, none⟩ = some (.slice ao ds.length cap) := (t.cell (p := ⟨b, off, none⟩) h.lt (fun q => h.ne b q rfl)).trans h.c
  refine ⟨World.cell?_setCell_same _ _ _ c1, ?_, ?_, by rw [World.size_setCell]; exact hlt, hne⟩
  · rw [World.frozen?_setCell]
    exact (World.frozen?_of_block (t.block b h.lt (fun q => h.ne b q rfl))).trans h.f
  · exact ((Turn.refl (fun j => j = b) w1).setCell (p := ⟨b, off, none⟩) (fun _ => rfl) _).row hr (fun j hj e => hne j (M.own_at hj) e)
theorem row_lower {w : World} {B B' : Nat} {e size n : Nat} {v : Value} {xs : List Value} (h : w.ownsRow B e size v n xs) (hb : B' ≤ B) : w.ownsRow B' e size v n xs := by
  obtain ⟨h1, h2⟩ := h
  refine ⟨h1, ?_⟩
  rcases h2 with h2 | ⟨g, cap, cur, hv, hg, rest⟩
  · exact .inl h2
  · exact .inr ⟨g, cap, cur, hv, Nat.le_trans hb hg, rest⟩
theorem row_base {w : World} {B e size n rc : Nat} {ro : Option Addr} {xs : List Value} (h : w.ownsRow B e size (.slice ro n rc) n xs) {j : Nat} (hj : M.At ro j) : B ≤ j := by
  obtain ⟨a, rfl, rfl⟩ := hj
  rcases h.2 with ⟨hv, _⟩ | ⟨g', cap', cur, hv, hb', hg', _⟩
  · cases hv
  · simp only [Value.slice.injEq, Option.some.injEq] at hv
    obtain ⟨rfl, _, _⟩ := hv
    exact hb'
/-- the end of a pop -/
theorem pop_end {es : List (Int × Int)} {ro : Option Addr} {rc q N : Nat} {wr : World} (h : Dm B b off ao cap ds w) (hB : B ≤ w.heap.size) (hb : Below w.heap.size w wr) (hr : wr.ownsRow N 52 2 (.slice ro es.length rc) es.length (es.flatMap tc)) (hq : q = w.heap.size) (hqN : q < N) (x y : Value) :
    DL B b off ao es w (((wr.setCell ⟨b, off, none⟩ (.slice ro es.length rc)).setCell ⟨q, 0, none⟩ x).setCell ⟨q, 1, none⟩ y) := by
  have hbl := h.lt
  have hN : ∀ j, M.At ro j → N ≤ j := fun j hj => row_base hr hj
  have hd := put_dm h (turn_below hb) (row_lower hr (by omega)) (fun j hj => by have := hN j hj; omega)
  have t1 : Turn (Own b ao) w (wr.setCell ⟨b, off, none⟩ (.slice ro es.length rc)) := (turn_below hb).trans ((Turn.refl _ wr).setCell (p := ⟨b, off, none⟩) (fun _ => .inl rfl) _)
  have tq : Turn (fun j => j = q) (wr.setCell ⟨b, off, none⟩ (.slice ro es.length rc)) (((wr.setCell ⟨b, off, none⟩ (.slice ro es.length rc)).setCell ⟨q, 0, none⟩ x).setCell ⟨q, 1, none⟩ y) := (((Turn.refl (fun j => j = q) _).setCell (p := ⟨q, 0, none⟩) (fun _ => rfl) _).setCell (p := ⟨q, 1, none⟩) (fun _ => rfl) _)
  refine ⟨ro, rc, hd.kept tq (fun j hj e => ?_), t1.then tq (fun i hi e => by omega), fun j hj => .inr (by have := hN j hj; omega), fun k hk => ?_⟩
  · rcases hj with rfl | hj
    · omega
    · have := hN j hj; omega
  · rw [tq.cell (p := ⟨b, k, none⟩) hd.lt (show ¬ b = q by omega), World.cell?_setCell_other _ _ _ _ (fun q => hk (by simpa using (congrArg Addr.off q).symm))]
    exact hb.cell (p := ⟨b, k, none⟩) hbl
/-- what is left of a list without one -/
theorem rs_same {k : Nat} (h : k < ds.length) : (ds.take (k + 1)).eraseIdx k = (ds.take k).eraseIdx k := by
  have e : ds.take (k + 1) = ds.take k ++ [ds[k]] := by rw [List.take_add_one, List.getElem?_eq_getElem h]; rfl
  have l : (ds.take k).length = k := by simp; omega
  have e2 : (ds.take k ++ [ds[k]]).eraseIdx k = ds.take k := by
    rw [List.eraseIdx_append_of_length_le (by omega), l, Nat.sub_self]
    simp
  rw [e, e2, List.eraseIdx_of_length_le (by omega)]
theorem rs_more {k i : Nat} {y : Int × Int} (hy : ds[i]? = some y) (hn : i ≠ k) : (ds.take (i + 1)).eraseIdx k = (ds.take i).eraseIdx k ++ [y] := by
  have h := (List.getElem?_eq_some_iff.1 hy).1
  have e : ds.take (i + 1) = ds.take i ++ [y] := by rw [List.take_add_one, hy]; rfl
  have l : (ds.take i).length = i := by simp; omega
  rw [e]
  by_cases g : k < i
  · rw [List.eraseIdx_append_of_lt_length (by omega)]
  · rw [List.eraseIdx_of_length_le (by simp; omega), List.eraseIdx_of_length_le (by omega)]
theorem msr2 {k n : Nat} (h : k < n) (i : Int) (e : i = (k : Int) + 1) : n - (intOf (.int .i64 i)).toNat < n - (intOf (.int .i64 (k : Int))).toNat := by
  rw [e]
  show n - ((k : Int) + 1).toNat < n - (k : Int).toNat
  omega
theorem wsc {i T : Nat} (h : i < T) (hT : (T : Int) ≤ 1099511627776) : wrap64 ((i : Int) + 1) = (((i + 1 : Nat)) : Int) := by unfold wrap64; omega
theorem rs_len {k i : Nat} : ((ds.take i).eraseIdx k).length ≤ ds.length := by
  have := (List.eraseIdx_sublist (ds.take i) k).length_le
  simp at this
  omega
set_option maxRecDepth 100000 in
set_option maxHeartbeats 4000000 in
theorem pop_none (h : Dm B b off ao cap [] w) : Calls Try.prog 26 #[.pointer (some ⟨b, off, none⟩)] w fun e w' => e = .returned (.tuple #[.agg #[.int .i64 0, .int .i64 0], .bool false]) ∧ Below w.heap.size w w' := by
  obtain ⟨q, hq⟩ : ∃ q, q = w.heap.size := ⟨_, rfl⟩
  obtain ⟨w1, hw1⟩ : ∃ w1, w1 = w.alloc (.cells #[.int .i64 0, .int .i64 0] 52) := ⟨_, rfl⟩
  have hb1 : Below w.heap.size w w1 := by rw [hw1]; exact (Below.refl w.heap.size w).alloc (Nat.le_refl _) _
  have hq1 : w1.heap[q]? = some (.cells #[.int .i64 0, .int .i64 0] 52 (0, 0)) := by rw [hw1, hq]; exact heap_alloc_new w _
  have HP := hide' (peek_none (h.below hb1))
  have HQ := hide' (And.intro hb1 (And.intro hq1 hq))
  have Hw := hide' (And.intro hw1 hq)
  clear h hb1 hq1 hw1 hq
  go_enter Try.func26, Try.ntmps26
  go_upto_region 1 with fail
  rw [← Hw.out.1, ← Hw.out.2]
  clear Hw
  go_wp2_with fail
  refine HP.out.mono ?_
  rintro e w2 ⟨rfl, b2⟩
  have hq2 := (b2.block q (lt_of_heap HQ.out.2.1)).trans HQ.out.2.1
  have hlq := lt_of_heap hq2
  have r0 : w2.cell? ⟨q, 0, none⟩ = some (.int .i64 0) := by rw [Lib.cell_of_heap hq2]; rfl
  have r1 : w2.cell? ⟨q, 1, none⟩ = some (.int .i64 0) := by rw [Lib.cell_of_heap hq2]; rfl
  have rf0 : w2.frozen? ⟨q, 0, none⟩ = false := Lib.frozen_of_heap hq2 0
  have rf1 : w2.frozen? ⟨q, 1, none⟩ = false := Lib.frozen_of_heap hq2 1
  have hb2 := HQ.out.1.trans (b2.mono HQ.out.1.size)
  have HB2 := hide' (And.intro hq2 hb2)
  clear b2 hq2 hb2 HP
  go_wp2
  (try simp only [Exit.inBlock, Exit.then])
  have k1 := row2 HB2.out.1 (.int .i64 0) (.int .i64 0)
  have k2 := (Below.heap_alloc _ (.cells #[.int .i64 0, .int .i64 0] 52) _ (lt_of_heap k1)).trans k1
  refine bodyPost_ret (Hp.results_row_tmp rfl _ _ q 52 #[.int .i64 0, .int .i64 0] (0, 0) _ rfl k2 Try.underlying52 rfl (by kernel_rfl)) rfl ?_
  have hle := Nat.le_of_eq HQ.out.2.2.symm
  have b3 := (HB2.out.2.setCell (p := ⟨q, 0, none⟩) hle (.int .i64 0)).setCell (p := ⟨q, 1, none⟩) hle (.int .i64 0)
  exact ⟨rfl, b3.alloc b3.size _⟩
set_option maxRecDepth 100000 in
set_option maxHeartbeats 4000000 in
theorem pop_some {k : Nat} {z : Int × Int} (h : Dm B b off ao cap ds w) (hk : Fl ds k) (hz : ds[k]? = some z) (hl : ds.length ≤ 1099511627776) (hB : B ≤ w.heap.size) : Calls Try.prog 26 #[.pointer (some ⟨b, off, none⟩)] w fun e w' => e = .returned (.tuple #[.agg #[.int .i64 z.1, .int .i64 z.2], .bool true]) ∧ DL B b off ao (ds.eraseIdx k) w w' := by
  obtain ⟨q, hq⟩ : ∃ q, q = w.heap.size := ⟨_, rfl⟩
  obtain ⟨w1, hw1⟩ : ∃ w1, w1 = w.alloc (.cells #[.int .i64 0, .int .i64 0] 52) := ⟨_, rfl⟩
  have hb1 : Below w.heap.size w w1 := by rw [hw1]; exact (Below.refl w.heap.size w).alloc (Nat.le_refl _) _
  have hq1 : w1.heap[q]? = some (.cells #[.int .i64 0, .int .i64 0] 52 (0, 0)) := by rw [hw1, hq]; exact heap_alloc_new w _
  have HP := hide' (peek_some (h.below hb1) hk hz hl)
  have HQ := hide' (And.intro hb1 (And.intro hq1 hq))
  have Hw := hide' (And.intro hw1 hq)
  have HH := hide' (And.intro h (And.intro hk (And.intro hl hB)))
  obtain ⟨g, rfl, hg, hgb⟩ := h.some (by have := Dh.Fl.lt hk; omega)
  obtain ⟨T, hT⟩ : ∃ T, T = ds.length := ⟨_, rfl⟩
  have HT := hide' hT
  have Hkz := hide' (And.intro hz (And.intro hg hgb))
  clear h hb1 hq1 hw1 hq hk hl hB hz hT hg hgb
  obtain ⟨zr, zi⟩ := z
  simp only at *
  go_enter Try.func26, Try.ntmps26
  go_upto_region 1 with fail
  rw [← Hw.out.1, ← Hw.out.2]
  clear Hw
  go_wp2_with fail
  refine HP.out.mono ?_
  rintro e w2 ⟨rfl, b2⟩
  have hb2 := HQ.out.1.trans (b2.mono HQ.out.1.size)
  have hq2 := (b2.block q (lt_of_heap HQ.out.2.1)).trans HQ.out.2.1
  obtain ⟨p, hp⟩ : ∃ p, p = w2.heap.size := ⟨_, rfl⟩
  obtain ⟨w3, hw3⟩ : ∃ w3, w3 = w2.alloc (.cells #[.int .i64 zr, .int .i64 zi] 52) := ⟨_, rfl⟩
  have hb3 : Below w.heap.size w w3 := by rw [hw3]; exact hb2.alloc hb2.size _
  have hq3 : w3.heap[q]? = some (.cells #[.int .i64 0, .int .i64 0] 52 (0, 0)) := by rw [hw3]; exact (Below.heap_alloc _ _ _ (lt_of_heap hq2)).trans hq2
  have hp3 : w3.heap[p]? = some (.cells #[.int .i64 zr, .int .i64 zi] 52 (0, 0)) := by rw [hw3, hp]; exact heap_alloc_new w2 _
  have D3 := HH.out.1.below hb3
  have HL := hide' (least_any D3 HH.out.2.1 HH.out.2.2.1)
  have H3 := hide' (And.intro hb3 (And.intro hq3 (And.intro hp3 (And.intro D3 (And.intro (show q ≠ p by rw [hp]; have := lt_of_heap hq2; omega) (show w.heap.size ≤ p by rw [hp]; exact hb2.size))))))
  have Hw3 := hide' (And.intro hw3 hp)
  clear b2 hb2 hq2 hp hw3 hb3 hq3 hp3 D3 HP
  go_upto_region 4 with fail
  rw [← Hw3.out.1, ← Hw3.out.2]
  clear Hw3
  go_wp2_with fail
  refine HL.out.mono ?_
  rintro e w4 ⟨rfl, n4, hw4⟩
  have H4 : Hid (Below w.heap.size w w4 ∧ w4.heap[q]? = some (.cells #[.int .i64 0, .int .i64 0] 52 (0, 0)) ∧ w4.heap[p]? = some (.cells #[.int .i64 zr, .int .i64 zi] 52 (0, 0)) ∧ Dm B b off (some ⟨g, 0, none⟩) cap ds w4 ∧ q ≠ p ∧ w.heap.size ≤ p) := hide' (by
    obtain ⟨a1, a2, a3, a4, a5⟩ := H3.out
    rw [hw4]
    exact ⟨bel_drewN a1 n4, a2, a3, ⟨a4.c, a4.f, a4.row, a4.lt, a4.ne⟩, a5⟩)
  have hlp : p < w4.heap.size := lt_of_heap H4.out.2.2.1
  have hTl : (T : Int) ≤ 1099511627776 := by rw [HT.out]; have := HH.out.2.2.1; omega
  clear hw4 HL H3
  go_wp2_with fail
  go_loopw [7, 8] (fun rv iv wx => ∃ (i : Nat) (ro : Option Addr) (rc : Nat), rv = .slice ro ((ds.take i).eraseIdx k).length rc ∧ iv = .int .i64 (i : Int) ∧ i ≤ T ∧ wx.ownsRow w4.heap.size 52 2 (.slice ro ((ds.take i).eraseIdx k).length rc) ((ds.take i).eraseIdx k).length (((ds.take i).eraseIdx k).flatMap tc) ∧ Below w4.heap.size w4 wx) (fun _ i _ => T - (intOf i).toNat)
  case atStart => exact ⟨0, none, 0, by simp, rfl, Nat.zero_le _, by simpa using World.ownsRow_nil w4 _ 52 2, Below.refl _ _⟩
  case round =>
    obtain ⟨i, ro, rc, rfl, rfl, hi, hr, hb⟩ := hrel
    have HI := hide' (And.intro hi (And.intro hr hb))
    have hD := H4.out.2.2.2.1.below hb
    have c0 : wr.cell? ⟨b, off, none⟩ = some (.slice (some ⟨g, 0, none⟩) T cap) := by rw [HT.out]; exact hD.c
    have HD := hide' hD
    clear hr hb hlp
    by_cases hlt : i < T
    · have hlt' : (i : Int) < (T : Int) := by omega
      have Hlt := hide' hlt
      have ew := hide' (wsc hlt hTl)
      have Hms := hide' (msr2 hlt _ rfl)
      obtain ⟨y, hy⟩ : ∃ y, ds[i]? = some y := ⟨_, List.getElem?_eq_getElem (by rw [← HT.out]; exact hlt)⟩
      by_cases e : i = k
      · subst e
        have Hr : Hid ((ds.take (i + 1)).eraseIdx i = (ds.take i).eraseIdx i) := hide' (rs_same (by rw [← HT.out]; exact hlt))
        generalize hrs : (ds.take i).eraseIdx i = rs at *
        clear hy hi hlt hD
        go_wp2
        exact ⟨⟨i + 1, ro, rc, by rw [Hr.out], by first | rfl | rw [ew.out], Hlt.out, by rw [Hr.out]; exact HI.out.2.1, HI.out.2.2⟩, by first | exact Hms.out | (rw [ew.out]; exact Hms.out)⟩
      · have e1 : ¬ ((i : Int) = (k : Int)) := by omega
        have e2 : ((i : Int) == (k : Int)) = false := by simpa using e1
        have Hr : Hid ((ds.take (i + 1)).eraseIdx k = (ds.take i).eraseIdx k ++ [y]) := hide' (rs_more hy e)
        obtain ⟨x0, x1⟩ := hD.item hy
        have Hln : Hid (((ds.take i).eraseIdx k).length < 3000000000000) := hide' (by have := rs_len (ds := ds) (k := k) (i := i); have := HH.out.2.2.1; omega)
        generalize hrs : (ds.take i).eraseIdx k = rs at *
        have Hrs := hide' hrs
        obtain ⟨y0, y1⟩ := y
        simp only at x0 x1
        clear hy hi hlt hD hrs e
        go_wp2_with (at_builtin; refine M.wpList_more (e := 52) (m := 2) Try.underlying31 info52 rfl (by omega) (by omega) wr rfl _ _ rfl HI.out.2.1 Hln.out HI.out.2.2.size (tc (y0, y1)) rfl (by simp [tc, Value.oneCell']) _ rfl rfl ?_; intro gg cap' w5 r5 t5 a5; have K5 := hide' (And.intro r5 t5); clear r5 t5 a5)
        refine ⟨⟨i + 1, some ⟨gg, 0, none⟩, cap', by rw [Hr.out]; simp, by first | rfl | rw [ew.out], Hlt.out, by rw [Hr.out, List.length_append, List.flatMap_append]; simpa using K5.out.1, ?_⟩, by first | exact Hms.out | (rw [ew.out]; exact Hms.out)⟩
        exact HI.out.2.2.trans (K5.out.2.below (fun j hj => by
          obtain ⟨a, rfl, rfl⟩ := hj
          rcases HI.out.2.1.2 with ⟨hv, _⟩ | ⟨g', cap', cur, hv, hb', hg', _⟩
          · cases hv
          · simp only [Value.slice.injEq, Option.some.injEq] at hv
            obtain ⟨rfl, _, _⟩ := hv
            exact hb') HI.out.2.2.size)
    · have hlt' : ¬ (i : Int) < (T : Int) := by omega
      obtain ⟨a1, a2, a3, a4, a5, a6⟩ := H4.out
      have ei : (ds.take i).eraseIdx k = ds.eraseIdx k := by rw [show i = ds.length by rw [← HT.out]; omega, List.take_length]
      rw [ei] at HI ⊢
      have hqw := (HI.out.2.2.block q (lt_of_heap a2)).trans a2
      have hpw := (HI.out.2.2.block p (lt_of_heap a3)).trans a3
      have q0 : wr.cell? ⟨q, 0, none⟩ = some (.int .i64 0) := by rw [Lib.cell_of_heap hqw]; rfl
      have q1 : wr.cell? ⟨q, 1, none⟩ = some (.int .i64 0) := by rw [Lib.cell_of_heap hqw]; rfl
      have qf0 : wr.frozen? ⟨q, 0, none⟩ = false := Lib.frozen_of_heap hqw 0
      have qf1 : wr.frozen? ⟨q, 1, none⟩ = false := Lib.frozen_of_heap hqw 1
      have p0 : wr.cell? ⟨p, 0, none⟩ = some (.int .i64 zr) := by rw [Lib.cell_of_heap hpw]; rfl
      have p1 : wr.cell? ⟨p, 1, none⟩ = some (.int .i64 zi) := by rw [Lib.cell_of_heap hpw]; rfl
      have bf := hD.f
      have hbw : b < w.heap.size := HH.out.1.lt
      have hqe := HQ.out.2.2
      have nbq : q ≠ b := by omega
      have nbp : p ≠ b := by omega
      have bw : Below w.heap.size w wr := a1.trans (HI.out.2.2.mono a1.size)
      have K9 := hide' (And.intro (pop_end HH.out.1 HH.out.2.2.2 bw HI.out.2.1 HQ.out.2.2 (lt_of_heap a2) (.int .i64 zr) (.int .i64 zi)) (show (((wr.setCell ⟨b, off, none⟩ (.slice ro (ds.eraseIdx k).length rc)).setCell ⟨q, 0, none⟩ (.int .i64 zr)).setCell ⟨q, 1, none⟩ (.int .i64 zi)).heap[q]? = some (.cells #[.int .i64 zr, .int .i64 zi] 52 (0, 0)) from row2 (((Turn.refl (fun j => j = b) wr).setCell (p := ⟨b, off, none⟩) (fun _ => rfl) _ |>.block q (lt_of_heap hqw) nbq).trans hqw) _ _))
      generalize hes : ds.eraseIdx k = es at *
      have HE := hide' hes
      clear hi hlt hes hD a1 a2 a3 a4 hqw hpw ei hbw hqe bw
      go_wp2
      (try simp only [Exit.inBlock, Exit.then])
      refine bodyPost_ret (Hp.results_row_tmp rfl _ _ q 52 #[.int .i64 zr, .int .i64 zi] (0, 0) _ rfl K9.out.2 Try.underlying52 rfl (by kernel_rfl)) rfl ?_
      rw [HE.out]
      exact ⟨rfl, K9.out.1⟩
end Dh
end Go.Proofs.Ytddkdakelcohgaa
