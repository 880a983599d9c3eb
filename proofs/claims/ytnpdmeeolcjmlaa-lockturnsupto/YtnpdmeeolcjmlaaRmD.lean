import Derived.Test.YtnpdmeeolcjmlaaRmC
set_option linter.unusedVariables false
set_option linter.unusedSimpArgs false
namespace Go.Proofs.Ytnpdmeeolcjmlaa
open Go.RowKit
namespace T
open M
variable {w w' : World}
theorem info87 : (Try.prog.info? 87).map (fun i => (i.zero, i.size, i.bytes)) = some (some (.agg #[.pointer none, .int .i64 0, .bool false, .int .i64 0]), 4, 32) := by kernel_rfl
/-- one thing more in a row: what turns is the row's block, and new ones -/
theorem wpList_one {t e m bytes : Nat} {z : Value} (ht : Try.prog.underlying t = some (.slice e)) (hinf : (Try.prog.info? e).map (fun i => (i.zero, i.size, i.bytes)) = some (some z, m, bytes)) (hz : z.cells.size = m) (hm : 0 < m) (hby : bytes ≤ 40) (w : World) {ops : Array Oper} {rest : List Oper} {o : Oper} {a : Act} {Q : Exit → Act → World → Prop} (hgd : o.guard = none) (s y : Operand)
    (ho : o.op = .call { callee := .builtin .append, args := #[s, y], argTypes := #[t, t] }) {B : Nat} {ro : Option Addr} {rc k : Nat} {xs : List Value} (hrow : w.ownsRow B e m (.slice ro k rc) k xs) (hl : k < 3000000000000) (hB : B ≤ w.heap.size) (cs : List Value) (hcl : cs.length = m) (h1 : ∀ u ∈ cs, u.oneCell' = true) (c : Nat) (hs : a.eval s = .slice ro k rc) (hx : a.eval y = .slice (some ⟨w.heap.size, 0, none⟩) 1 c)
    (hk : ∀ gg cap' w1, w1.ownsRow B e m (.slice (some ⟨gg, 0, none⟩) (k + 1) cap') (k + 1) (xs ++ cs) → Turn (At ro) w w1 → (At ro gg ∨ w.heap.size ≤ gg) → wpList Try.prog ops Q rest (a.put o.dst (.slice (some ⟨gg, 0, none⟩) (k + 1) cap')) w1) :
    wpList Try.prog ops Q (o :: rest) a (w.alloc (.cells cs.toArray e)) := by
  obtain ⟨i0, hi0, hz0, hz1, hz2⟩ := info_parts hinf
  refine wpList_append_lies _ hgd s y t ho B e i0 _ m bytes ht hi0 hz0 hz1 hz2 hz hm _ k xs hs (World.ownsRow.alloc hrow _) ⟨w.heap.size, 0, none⟩ 1 c cs hx (by omega) (fun j u hj => World.news_of_block (heap_alloc_new w (.cells cs.toArray e)) j u (by simpa using hj)) h1 (by omega) (by unfold maxLen; omega) (Nat.le_trans (Nat.mul_le_mul_left _ hby) (by omega)) (by simp; omega) (w.heap.size + 1) (by simp) ?_
  intro gg cap' w1 hown1 hgrow hat hlt
  have t0 : Turn (At ro) w w1 := ((Turn.refl _ w).alloc _).grown hgrow (fun k hk _ => own_at hk)
  refine hk gg cap' w1 hown1 t0 ?_
  rcases hat with q | q
  · exact .inl (own_at q)
  · exact .inr (by omega)
def fr : Tk := ⟨none, -1, false, 0⟩
/-- a room in the making: k tasks -/
structure Rp (w0 : World) (bg : Int) (r x lb l1 l2 : Nat) (k : Nat) (to : Option Addr) (tc : Nat) (w : World) : Prop where
  ex : ∃ D tr bad, Mem D w0.heap.size x [0, bg, bg] tr bad w ∧ tr.length = 2
  hr : w.heap[r]? = some (.cells #[.pointer (some ⟨x, 0, none⟩), .slice (some ⟨lb, 0, none⟩) 2 2, .slice to k tc, .int .i64 0, .int .i64 0, .slice none 0 0] 62 (0, 0))
  hL : Lb lb l1 l2 w
  k1 : Lk l1 x 1 2 w
  k2 : Lk l2 x 1 2 w
  row : w.ownsRow w0.heap.size 87 4 (.slice to k tc) k (tks (List.replicate k fr))
  lr : w0.heap.size ≤ r
  bel : Below w0.heap.size w0 w
variable {w0 : World} {bg : Int} {r x lb l1 l2 k : Nat} {to : Option Addr} {tc : Nat}
theorem Rp.far (h : Rp w0 bg r x lb l1 l2 k to tc w) {j : Nat} {cs : Array Value} {Ty : TypeId} {z : Nat × Nat} (hj : w.heap[j]? = some (.cells cs Ty z)) (ht : Ty ≠ 87) : ¬ At to j := fun y => by
  obtain ⟨_, _, cs', h'⟩ := row_atk h.row y
  exact cells_ne hj h' ht rfl
theorem Rp.grow (h : Rp w0 bg r x lb l1 l2 k to tc w) {gg cap' : Nat} {w1 : World} (hr1 : w1.ownsRow w0.heap.size 87 4 (.slice (some ⟨gg, 0, none⟩) (k + 1) cap') (k + 1) (tks (List.replicate k fr) ++ fr.cells)) (t : Turn (At to) w w1) : Rp w0 bg r x lb l1 l2 (k + 1) (some ⟨gg, 0, none⟩) cap' (w1.setCell ⟨r, 2, none⟩ (.slice (some ⟨gg, 0, none⟩) (k + 1) cap')) := by
  have hR := (t.block r (lt_of_heap h.hr) (h.far h.hr (by decide))).trans h.hr
  have t1 := turn_b r 2 (.slice (some ⟨gg, 0, none⟩) (k + 1) cap') w1
  have tt : Turn (fun j => At to j ∨ j = r) w (w1.setCell ⟨r, 2, none⟩ (.slice (some ⟨gg, 0, none⟩) (k + 1) cap')) := (t.mono (fun j _ z => .inl z)).trans (t1.mono (fun j _ z => .inr z))
  have nin : ∀ {j : Nat} {cs : Array Value} {Ty : TypeId} {z : Nat × Nat}, w.heap[j]? = some (.cells cs Ty z) → Ty ≠ 87 → Ty ≠ 62 → ¬ (At to j ∨ j = r) := fun hj h1 h2 z => by
    rcases z with z | z
    · exact h.far hj h1 z
    · exact cells_ne hj h.hr h2 z
  obtain ⟨D, tr, bad, hm, hl⟩ := h.ex
  refine ⟨⟨D, tr, bad, hm.kept tt (fun j hj z => ?_), hl⟩, ?_, (tt.block _ (lt_of_heap h.hL) (nin h.hL (by decide) (by decide))).trans h.hL, h.k1.kept tt (nin h.k1 (by decide) (by decide)), h.k2.kept tt (nin h.k2 (by decide) (by decide)), ?_, h.lr, h.bel.trans (tt.below (fun j hj => ?_) h.bel.size)⟩
  · obtain ⟨cs', t', h1, h2⟩ := hm.kind hj
    exact nin h1 (by rcases h2 with rfl | rfl | rfl <;> decide) (by rcases h2 with rfl | rfl | rfl <;> decide) z
  · have := set_block (off := 2) (v := .slice (some ⟨gg, 0, none⟩) (k + 1) cap') hR
    exact this
  · rw [List.replicate_succ', show tks (List.replicate k fr ++ [fr]) = tks (List.replicate k fr) ++ fr.cells by simp [tks]]
    refine t1.row hr1 (fun j hj z => ?_)
    have e1 : gg = j := by simpa [Value.ownBlock] using hj
    obtain ⟨_, cs', h'⟩ := row_blk hr1
    exact cells_ne h' hR (by decide) (e1.trans z)
  · rcases hj with z | z
    · exact (row_atk h.row z).1
    · rw [z]; exact h.lr
theorem Rp.room (h : Rp w0 bg r x lb l1 l2 k to tc w) (hk : 0 < k) (hb : wrap64 bg = bg) : ∃ g D tr bad, to = some ⟨g, 0, none⟩ ∧ Rm w0 bg 2 r x lb l1 l2 g tc (List.replicate k fr) 0 0 0 D tr bad none 0 w := by
  obtain ⟨g, cap', hv, _, _⟩ := h.row.form hk
  simp only [Value.slice.injEq] at hv
  obtain ⟨rfl, _, rfl⟩ := hv
  obtain ⟨D, tr, bad, hm, hl⟩ := h.ex
  have fw : ∀ (i : Nat) (t : Tk), (List.replicate k fr)[i]? = some t → t = fr := fun i t hi => by
    rw [List.getElem?_replicate] at hi
    split at hi
    · exact (Option.some.inj hi).symm
    · cases hi
  have e0 : bg + ((0 : Nat) : Int) = bg := by omega
  refine ⟨g, D, tr, bad, rfl, ⟨by rw [e0, hb]; exact hm, by omega, by rw [List.length_replicate]; exact h.hr, World.ownsRow_nil _ _ _ _, fun j hj => (by obtain ⟨a, ha, _⟩ := hj; cases ha), h.hL, h.k1, h.k2, by rw [List.length_replicate]; exact h.row, ?_, ?_, h.lr, h.bel⟩⟩
  · intro i t b hi hb
    rw [fw i t hi] at hb
    cases hb
  · intro i j t u b hi hj ht hu
    rw [fw i t hi] at ht
    cases ht
set_option maxRecDepth 100000 in
set_option maxHeartbeats 4000000 in
theorem room_any (n : Nat) (hn : 1 ≤ n ∧ n ≤ 8) (bg : Int) (hb : wrap64 bg = bg) (w : World) : Calls Try.prog 20 #[.int .i64 (n : Nat), .int .i64 bg] w fun e w' => ∃ r x lb l1 l2 g tc D tr bad, e = .returned (.tuple #[.pointer (some ⟨r, 0, none⟩), .bool true]) ∧ Rm w bg 2 r x lb l1 l2 g tc (List.replicate n fr) 0 0 0 D tr bad none 0 w' := by
  have H1 := hide' (new_any 3 w (by omega) (by omega) 3 rfl)
  have HN := hide' hn
  have HB := hide' hb
  clear hn hb
  go_enter Try.func20, Try.ntmps20
  go_wp2_with fail
  refine H1.out.mono ?_
  rintro e w1 ⟨x, rfl, D, h1, b1⟩
  have HS : Hid (Calls Try.prog 23 #[.pointer (some ⟨x, 0, none⟩), .int .i64 1, .int .i64 bg] w1 fun e w' => e = .returned (.int .i64 0) ∧ To D w.heap.size x [0, bg, 0] [⟨2, 1, bg, 0, true⟩] 0 w1 w') := hide' (store_any 1 bg h1 (by simp))
  have HM := hide' (And.intro h1 b1)
  clear h1 b1 H1
  go_wp2_with fail
  refine HS.out.mono ?_
  rintro e w2 ⟨rfl, t2⟩
  obtain ⟨D2, m2, b2⟩ := To.below HM.out.1 HM.out.2 t2
  have HS2 : Hid (Calls Try.prog 23 #[.pointer (some ⟨x, 0, none⟩), .int .i64 2, .int .i64 bg] w2 fun e w' => e = .returned (.int .i64 0) ∧ To D2 w.heap.size x [0, bg, bg] ([⟨2, 1, bg, 0, true⟩] ++ [⟨2, 2, bg, 0, true⟩]) 0 w2 w') := hide' (store_any 2 bg m2 (by simp))
  have HM2 := hide' (And.intro m2 b2)
  clear HS t2 HM m2 b2
  go_wp2_with fail
  refine HS2.out.mono ?_
  rintro e w3 ⟨rfl, t3⟩
  obtain ⟨D3, m3, b3⟩ := To.below HM2.out.1 HM2.out.2 t3
  have H9 : Hid (Calls Try.prog 9 #[.pointer (some ⟨x, 0, none⟩), .int .i64 1, .int .i64 2] w3 fun e w' => e = .returned (.tuple #[.pointer (some ⟨w3.heap.size, 0, none⟩), .int .i64 0]) ∧ w' = w3.alloc (.cells #[.pointer (some ⟨x, 0, none⟩), .int .i64 ((1 : Nat) : Int), .int .i64 ((2 : Nat) : Int)] 71)) := hide' (lnew_ok 1 2 m3 (by simp) (by simp) (by decide))
  have HM3 := hide' (And.intro m3 b3)
  clear HS2 t3 HM2 m3 b3
  go_wp2_with fail
  refine H9.out.mono ?_
  rintro e w4 ⟨rfl, hw4⟩
  have t4 : Below w3.heap.size w3 w4 := by rw [hw4]; exact (Below.refl _ _).alloc (Nat.le_refl _) _
  have hk1 : Lk w3.heap.size x 1 2 w4 := by rw [hw4]; exact lnew_lk x 1 2 w3
  have m4 := HM3.out.1.below t4
  have b4 := HM3.out.2.trans (t4.mono HM3.out.2.size)
  have H92 : Hid (Calls Try.prog 9 #[.pointer (some ⟨x, 0, none⟩), .int .i64 1, .int .i64 2] w4 fun e w' => e = .returned (.tuple #[.pointer (some ⟨w4.heap.size, 0, none⟩), .int .i64 0]) ∧ w' = w4.alloc (.cells #[.pointer (some ⟨x, 0, none⟩), .int .i64 ((1 : Nat) : Int), .int .i64 ((2 : Nat) : Int)] 71)) := hide' (lnew_ok 1 2 m4 (by simp) (by simp) (by decide))
  obtain ⟨l1, hl1⟩ : ∃ l1, w3.heap.size = l1 := ⟨_, rfl⟩
  rw [hl1] at hk1 ⊢
  have HM4 := hide' (And.intro m4 (And.intro b4 hk1))
  clear H9 hw4 t4 hk1 m4 b4 HM3 hl1
  go_wp2_with fail
  refine H92.out.mono ?_
  rintro e w5 ⟨rfl, hw5⟩
  have t5 : Below w4.heap.size w4 w5 := by rw [hw5]; exact (Below.refl _ _).alloc (Nat.le_refl _) _
  have hk2 : Lk w4.heap.size x 1 2 w5 := by rw [hw5]; exact lnew_lk x 1 2 w4
  obtain ⟨l2, hl2⟩ : ∃ l2, w4.heap.size = l2 := ⟨_, rfl⟩
  have HM5 := hide' (And.intro (HM4.out.1.below t5) (And.intro (HM4.out.2.1.trans (t5.mono HM4.out.2.1.size)) (And.intro (HM4.out.2.2.below t5) hk2)))
  rw [hl2] at HM5 ⊢
  clear H92 hw5 t5 hk2 HM4 hl2
  have HP : Hid (∀ W, W = (w5.alloc (.cells #[.pointer (some ⟨l1, 0, none⟩), .pointer (some ⟨l2, 0, none⟩)] 26)).alloc (.cells #[.pointer (some ⟨x, 0, none⟩), .slice (some ⟨w5.heap.size, 0, none⟩) 2 2, .slice none 0 0, .int .i64 0, .int .i64 0, .slice none 0 0] 62) → Rp w bg (w5.heap.size + 1) x w5.heap.size l1 l2 0 none 0 W) := hide' (fun W hW => by
    subst hW
    obtain ⟨m5, b5, y1, y2⟩ := HM5.out
    have t6 : Below w5.heap.size w5 (w5.alloc (.cells #[.pointer (some ⟨l1, 0, none⟩), .pointer (some ⟨l2, 0, none⟩)] 26)) := (Below.refl _ _).alloc (Nat.le_refl _) _
    have hz : (w5.alloc (.cells #[.pointer (some ⟨l1, 0, none⟩), .pointer (some ⟨l2, 0, none⟩)] 26)).heap.size = w5.heap.size + 1 := by simp
    have t7 := (Below.refl (w5.alloc (.cells #[.pointer (some ⟨l1, 0, none⟩), .pointer (some ⟨l2, 0, none⟩)] 26)).heap.size (w5.alloc (.cells #[.pointer (some ⟨l1, 0, none⟩), .pointer (some ⟨l2, 0, none⟩)] 26))).alloc (Nat.le_refl _) (.cells #[.pointer (some ⟨x, 0, none⟩), .slice (some ⟨w5.heap.size, 0, none⟩) 2 2, .slice none 0 0, .int .i64 0, .int .i64 0, .slice none 0 0] 62)
    have hr := heap_alloc_new (w5.alloc (.cells #[.pointer (some ⟨l1, 0, none⟩), .pointer (some ⟨l2, 0, none⟩)] 26)) (.cells #[.pointer (some ⟨x, 0, none⟩), .slice (some ⟨w5.heap.size, 0, none⟩) 2 2, .slice none 0 0, .int .i64 0, .int .i64 0, .slice none 0 0] 62)
    rw [hz] at hr
    have hl : Lb w5.heap.size l1 l2 (w5.alloc (.cells #[.pointer (some ⟨l1, 0, none⟩), .pointer (some ⟨l2, 0, none⟩)] 26)) := heap_alloc_new _ _
    exact ⟨⟨D3, _, 0, (m5.below t6).below t7, rfl⟩, hr, (t7.block _ (lt_of_heap hl)).trans hl, (y1.below t6).below t7, (y2.below t6).below t7, World.ownsRow_nil _ _ _ _, Nat.le_succ_of_le b5.size, (b5.trans (t6.mono b5.size)).trans (t7.mono (Nat.le_trans b5.size t6.size))⟩)
  have hsz : ∀ o, (w5.alloc o).heap.size = w5.heap.size + 1 := fun o => by simp
  go_wp2_with fail
  have S0 := hide' (HP.out _ rfl)
  clear HP hsz HM5
  generalize (w5.alloc (.cells #[.pointer (some ⟨l1, 0, none⟩), .pointer (some ⟨l2, 0, none⟩)] 26)).alloc (.cells #[.pointer (some ⟨x, 0, none⟩), .slice (some ⟨w5.heap.size, 0, none⟩) 2 2, .slice none 0 0, .int .i64 0, .int .i64 0, .slice none 0 0] 62) = W at *
  obtain ⟨lb, hlb⟩ : ∃ lb, w5.heap.size = lb := ⟨_, rfl⟩
  obtain ⟨r, hr⟩ : ∃ r, lb + 1 = r := ⟨_, rfl⟩
  rw [hlb, hr] at S0 ⊢
  clear hlb hr
  go_loopw [15] (fun i wx => ∃ (k tc : Nat) (to : Option Addr), k ≤ n ∧ i = .int .i64 (k : Int) ∧ Rp w bg r x lb l1 l2 k to tc wx) (fun i _ => n - (intOf i).toNat)
  case atStart => exact ⟨0, 0, none, by omega, rfl, S0.out⟩
  case round =>
    obtain ⟨k, tc, to, hk, rfl, hR⟩ := hrel
    have HR := hide' hR
    by_cases hlt : k < n
    · have c2 : wr.cell? ⟨r, 2, none⟩ = some (.slice to k tc) := by rw [Lib.cell_of_heap hR.hr]; rfl
      have Hwk : Hid (wrap64 ((k : Int) + 1) = (k : Int) + 1) := hide' (by have := HN.out; unfold wrap64; omega)
      have HL := hide' (show k < 3000000000000 by have := HN.out; omega)
      clear hR
      have hlt' : (k : Int) < (n : Int) := by omega
      go_wp2_with (at_builtin; refine wpList_one (e := 87) (m := 4) Try.underlying60 info87 rfl (by omega) (by omega) wr rfl _ _ rfl HR.out.row HL.out HR.out.bel.size [.pointer none, .int .i64 (-1), .bool false, .int .i64 0] rfl (by simp [Value.oneCell']) _ rfl rfl ?_; intro gg cap' w1 hr1 t1 hg1; have a0 := (t1.cell (p := ⟨r, 2, none⟩) (lt_of_heap HR.out.hr) (HR.out.far HR.out.hr (by decide))).trans c2; have a1 : w1.frozen? ⟨r, 2, none⟩ = false := Lib.frozen_of_heap ((t1.block r (lt_of_heap HR.out.hr) (HR.out.far HR.out.hr (by decide))).trans HR.out.hr) 2)
      exact ⟨⟨k + 1, cap', some ⟨gg, 0, none⟩, by omega, by rw [Hwk.out]; go_num, HR.out.grow hr1 t1⟩, msr' hlt _ Hwk.out⟩
    · obtain rfl : n = k := by omega
      clear hR
      go_wp2
      obtain ⟨g, D, tr, bad, rfl, hRm⟩ := HR.out.room (by have := HN.out; omega) HB.out
      go_ret2
      exact ⟨r, x, lb, l1, l2, g, tc, D, tr, bad, rfl, hRm⟩
/-- how many hold -/
def hc (ts : List Tk) : Nat := (ts.filter (fun t => t.h)).length
theorem hc_take {ts : List Tk} {k : Nat} {t : Tk} (h : ts[k]? = some t) : hc (ts.take (k + 1)) = hc (ts.take k) + (if t.h then 1 else 0) := by
  have hl : k < ts.length := (List.getElem?_eq_some_iff.1 h).1
  have he : ts[k] = t := (List.getElem?_eq_some_iff.1 h).2
  rw [List.take_succ_eq_append_getElem hl, he]
  unfold hc
  rw [List.filter_append, List.length_append]
  cases hh : t.h <;> simp [hh]
theorem hc_le (ts : List Tk) (k : Nat) : hc (ts.take k) ≤ k := by
  unfold hc
  exact Nat.le_trans (List.length_filter_le _ _) (by rw [List.length_take]; omega)
variable {N g : Nat} {ts : List Tk} {c f o : Nat} {D : Nat → Prop} {tr : List Ac} {bad : Nat} {oo : Option Addr} {oc : Nat}
set_option maxRecDepth 100000 in
set_option maxHeartbeats 4000000 in
theorem holding_any (h : Rm w0 bg N r x lb l1 l2 g tc ts c f o D tr bad oo oc w) (hl : ts.length ≤ 8) : Calls Try.prog 22 #[.pointer (some ⟨r, 0, none⟩)] w fun e w' => e = .returned (.int .i64 (hc ts : Nat)) ∧ w' = w := by
  have c2 : w.cell? ⟨r, 2, none⟩ = some (.slice (some ⟨g, 0, none⟩) ts.length tc) := by rw [Lib.cell_of_heap h.hr]; rfl
  have HR := hide' (fun (i : Nat) (t : Tk) (hi : ts[i]? = some t) => (row_cells4 h.row hi).2.2.1)
  have HL := hide' hl
  have Hfin := hide' (show hc (ts.take ts.length) = hc ts by rw [List.take_length])
  clear h hl
  go_enter Try.func22, Try.ntmps22
  go_wp2_with fail
  go_loopw [3, 4] (fun n i wx => ∃ (k m : Nat), k ≤ ts.length ∧ m = hc (ts.take k) ∧ n = .int .i64 (m : Int) ∧ i = .int .i64 (k : Int) ∧ wx = w) (fun _ i _ => ts.length - (intOf i).toNat)
  case atStart => exact ⟨0, 0, by omega, rfl, rfl, rfl, rfl⟩
  case round =>
    obtain ⟨k, m, hk, hm, rfl, rfl, hwx⟩ := hrel
    replace hwx := hwx.symm
    subst hwx
    have HM := hide' hm
    clear hm
    by_cases hlt : k < ts.length
    · have hlt' : (k : Int) < (ts.length : Int) := by omega
      obtain ⟨t, ht⟩ : ∃ t, ts[k]? = some t := ⟨_, List.getElem?_eq_getElem hlt⟩
      have d := HR.out k t ht
      have Hwk : Hid (wrap64 ((k : Int) + 1) = (k : Int) + 1) := hide' (by have := HL.out; unfold wrap64; omega)
      have Hwm : Hid (wrap64 ((m : Int) + 1) = (m : Int) + 1) := hide' (by have := HL.out; have := hc_le ts k; rw [← HM.out] at this; unfold wrap64; omega)
      have Hst := hide' (hc_take ht)
      clear ht
      cases hth : t.h with
      | true =>
        rw [hth] at d Hst
        clear hth
        go_wp2
        exact ⟨⟨k + 1, m + 1, by omega, by rw [Hst.out, HM.out]; rfl, by rw [Hwm.out]; go_num, by rw [Hwk.out]; go_num, trivial⟩, msr' hlt _ Hwk.out⟩
      | false =>
        rw [hth] at d Hst
        clear hth
        go_wp2
        exact ⟨⟨k + 1, m, by omega, by rw [Hst.out, HM.out]; rfl, rfl, by rw [Hwk.out]; go_num, trivial⟩, msr' hlt _ Hwk.out⟩
    · obtain rfl : k = ts.length := by omega
      rw [show m = hc ts from HM.out.trans Hfin.out]
      go_wp2
      go_ret
      exact ⟨rfl, rfl⟩
end T
end Go.Proofs.Ytnpdmeeolcjmlaa
