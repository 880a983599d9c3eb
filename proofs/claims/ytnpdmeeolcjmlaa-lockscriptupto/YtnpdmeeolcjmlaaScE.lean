import Derived.Test.YtnpdmeeolcjmlaaScS
set_option linter.unusedVariables false
set_option linter.unusedSimpArgs false
namespace Go.Proofs.Ytnpdmeeolcjmlaa
open Go.RowKit
namespace C
open M F
variable {w0 w w' : World} {n x y s lb l1 l2 k nx sv : Nat} {ps : List Wp} {wo qo : Option Addr} {wc qc K : Nat}
theorem info29 : (Try.prog.info? 29).map (fun i => (i.zero, i.size, i.bytes)) = some (some (.pointer none), 1, 8) := by kernel_rfl
theorem info84 : (Try.prog.info? 84).map (fun i => (i.zero, i.size, i.bytes)) = some (some (.pointer none), 1, 8) := by kernel_rfl
/-- both rows have grown: a waiter more -/
theorem Sn.entered {U : Nat → Prop} {ws : List Int} {tr : List Ac} {bad b q l gw cw gq cq : Nat} (bel : Below w0.heap.size w0 w) (hX : Sx w0 x y s lb l1 l2 k nx sv ps (ps.map (·.b) ++ [b]) (ps.map (·.q) ++ [q]) (some ⟨gw, 0, none⟩) cw (some ⟨gq, 0, none⟩) cq w) (hP : Pr U w0.heap.size x y ws (K + 1) tr bad w) (hl : l = l1 ∨ l = l2) (hw : Wt b l (-1) false false w) (hr : RWt q k (-1) false false w) (hb : w0.heap.size ≤ b) (hq : w0.heap.size ≤ q) (hn : ∀ (i : Nat) (p : Wp), ps[i]? = some p → p.b ≠ b ∧ p.q ≠ q) (h1 : ws.length = n) (h2 : tr.length ≤ K) (h3 : ps.length ≤ K) : Sn w0 n x y s lb l1 l2 k nx sv (K + 1) w := by
  have h := hX.addP hl hw hr hb hq hn
  have h' : Sx w0 x y s lb l1 l2 k nx sv (ps ++ [⟨b, q, l, -1, false, false⟩]) ((ps ++ [(⟨b, q, l, -1, false, false⟩ : Wp)]).map (·.b)) ((ps ++ [(⟨b, q, l, -1, false, false⟩ : Wp)]).map (·.q)) (some ⟨gw, 0, none⟩) cw (some ⟨gq, 0, none⟩) cq w := by
    rw [List.map_append, List.map_append]
    exact h
  exact ⟨bel, U, ws, tr, bad, _, _, _, _, _, hP, h1, by omega, by simp; omega, h'⟩
/-- the end of Enter -/
theorem enter_fin {U : Nat → Prop} {ws : List Int} {tr : List Ac} {bad b l gg cap' gg2 cap2 : Nat} {w2 V3 w5 : World} {o1 : Obj} (bel : Below w0.heap.size w0 w) (hP : Pr U w0.heap.size x y ws K tr bad w) (hX : Sx w0 x y s lb l1 l2 k nx sv ps (ps.map (·.b)) (ps.map (·.q)) wo wc qo qc w) (z1 : Below w.heap.size w w2)
    (X3 : Sx w0 x y s lb l1 l2 k nx sv ps (ps.map (·.b) ++ [b]) (ps.map (·.q)) (some ⟨gg, 0, none⟩) cap' qo qc V3) (W3 : Wt b l (-1) false false V3) (T3 : Turn (fun j => At wo j ∨ j = s) w2 V3) (hb : w.heap.size ≤ b) (hl : l = l1 ∨ l = l2) (h1 : ws.length = n) (h2 : tr.length ≤ K) (h3 : ps.length ≤ K)
    (hown : w5.ownsRow w0.heap.size 84 1 (.slice (some ⟨gg2, 0, none⟩) (ps.length + 1) cap2) (ps.length + 1) ((ps.map (·.q)).map ptr ++ [ptr V3.heap.size])) (hgrow : ((V3.alloc (.cells #[.pointer (some ⟨k, 0, none⟩), .int .i64 0, .int .i64 0] 94)).alloc o1).drew.grownBy w5 (Value.slice qo ps.length qc).ownBlock) :
    Sn w0 n x y s lb l1 l2 k nx sv (K + 1) (w5.setCell ⟨s, 5, none⟩ (.slice (some ⟨gg2, 0, none⟩) (ps.length + 1) cap2)) := by
  have hX2 := hX.below z1
  have B4 : Below V3.heap.size V3 ((V3.alloc (.cells #[.pointer (some ⟨k, 0, none⟩), .int .i64 0, .int .i64 0] 94)).alloc o1).drew := (((Below.refl _ _).alloc (Nat.le_refl _) _).alloc (by simp) _).drew
  have X4 := X3.below B4
  have W4 := W3.below B4
  have R4 : RWt V3.heap.size k (-1) false false ((V3.alloc (.cells #[.pointer (some ⟨k, 0, none⟩), .int .i64 0, .int .i64 0] 94)).alloc o1).drew := (Below.heap_alloc _ _ _ (by simp)).trans (rwait_wt k V3)
  have t5 : Turn (At qo) ((V3.alloc (.cells #[.pointer (some ⟨k, 0, none⟩), .int .i64 0, .int .i64 0] 94)).alloc o1).drew w5 := (Turn.refl _ _).grown hgrow (fun j hj _ => own_at hj)
  have X5 := X4.addQ (b := V3.heap.size) (by rw [List.length_map]; exact hown) t5
  rw [List.length_map] at X5
  have tt : Turn (fun j => At qo j ∨ j = s) ((V3.alloc (.cells #[.pointer (some ⟨k, 0, none⟩), .int .i64 0, .int .i64 0] 94)).alloc o1).drew (w5.setCell ⟨s, 5, none⟩ (.slice (some ⟨gg2, 0, none⟩) (ps.length + 1) cap2)) := (t5.mono (fun j _ z => .inl z)).trans ((turn_b s 5 _ w5).mono (fun j _ z => .inr z))
  have far : ∀ {j : Nat} {cs : Array Value} {T : TypeId} {z : Nat × Nat}, ((V3.alloc (.cells #[.pointer (some ⟨k, 0, none⟩), .int .i64 0, .int .i64 0] 94)).alloc o1).drew.heap[j]? = some (.cells cs T z) → T ≠ 84 → T ≠ 49 → ¬ (At qo j ∨ j = s) := fun hj n1 n2 z => by
    rcases z with z | z
    · obtain ⟨_, _, cs', h'⟩ := row_at X4.rq z
      exact cells_ne hj h' n1 rfl
    · exact cells_ne hj X4.hs n2 z
  have W5 := W4.kept tt (far W4 (by decide) (by decide))
  have R5 := R4.kept tt (far R4 (by decide) (by decide))
  have P2 := hP.below z1
  have P3 := P2.kept T3 (fun j hj z => by
    rcases z with z | z
    · obtain ⟨_, _, cs', h'⟩ := row_at hX2.rw z
      exact Pr.not P2 h' (.inl (by unfold SK; simp)) hj
    · exact Pr.not P2 (z ▸ hX2.hs) (.inl (by unfold SK; simp)) hj)
  have P4 := P3.below B4
  have P5 := P4.kept tt (fun j hj z => by
    rcases z with z | z
    · obtain ⟨_, _, cs', h'⟩ := row_at X4.rq z
      exact Pr.not P4 h' (.inl (by unfold SK; simp)) hj
    · exact Pr.not P4 (z ▸ X4.hs) (.inl (by unfold SK; simp)) hj)
  have q1 := bel.size
  have q2 := z1.size
  have q3 := T3.size
  refine Sn.entered ?_ X5 (pr_more P5) hl W5 R5 (by omega) (by omega) (fun i p hp => ?_) h1 h2 h3
  · have b2 := bel.trans (z1.mono q1)
    have b3 := b2.trans (T3.below (fun j hj => by
      rcases hj with z | z
      · exact (row_at hX2.rw z).1
      · rw [z]; exact hX2.ls) b2.size)
    have b4 := b3.trans (B4.mono b3.size)
    exact b4.trans (tt.below (fun j hj => by
      rcases hj with z | z
      · exact (row_at X4.rq z).1
      · rw [z]; exact X4.ls) b4.size)
  · obtain ⟨_, y1, y2, _, _, _⟩ := hX.wt i p hp
    have e1 := lt_of_heap y1
    have e2 := lt_of_heap y2
    exact ⟨by omega, by omega⟩
set_option maxRecDepth 100000 in
set_option maxHeartbeats 4000000 in
theorem sc_enter (N A V : Int) (h : Sn w0 n x y s lb l1 l2 k nx sv K w) (hK : K < 1999990) :
    Calls Try.prog 17 #[.pointer (some ⟨s, 0, none⟩), .agg #[.int .i64 1, .int .i64 N, .int .i64 A, .int .i64 V]] w fun e w' => e = .returned (.bool true) ∧ Sn w0 n x y s lb l1 l2 k nx sv (K + 1) w' := by
  obtain ⟨bel, U, ws, tr, bad, ps, wo, wc, qo, qc, hP, hn, htr, hps, hX⟩ := h
  have hB : Below w.heap.size w (w.alloc (.cells #[.int .i64 1, .int .i64 N, .int .i64 A, .int .i64 V] 52)).drew := ((Below.refl _ _).alloc (Nat.le_refl _) _).drew
  have hX1 := hX.below hB
  have hb1 : Bs w.heap.size 1 N A V (w.alloc (.cells #[.int .i64 1, .int .i64 N, .int .i64 A, .int .i64 V] 52)).drew := heap_alloc_new _ _
  obtain ⟨e, he, hme⟩ := mod2 N
  have he' : (e : Int) < 2 := by omega
  have HPk := hide' (fun V => pick_big N 2 V (by omega) (by omega))
  rw [hme] at HPk
  obtain ⟨l, hl, hlk, cl⟩ := hX1.lk e he
  have HC := hide' ((wait_new l (w.alloc (.cells #[.int .i64 1, .int .i64 N, .int .i64 A, .int .i64 V] 52)).drew).mono (fun e w' ⟨h1, h2⟩ => (And.intro h1 (hide' h2))))
  have K1 := hX1.c1
  have B1 := hb1.c1
  have HKK := hide' (And.intro hK (And.intro hn (And.intro htr hps)))
  have HL := hide' hl
  have HS := hide' (And.intro bel (And.intro hP hX))
  have hsz : (w.alloc (.cells #[.int .i64 1, .int .i64 N, .int .i64 A, .int .i64 V] 52)).drew.heap.size = w.heap.size + 1 := by show (w.alloc _).heap.size = _; simp
  -- what stands behind the first call
  have HV : Hid (∀ V2, V2 = (w.alloc (.cells #[.int .i64 1, .int .i64 N, .int .i64 A, .int .i64 V] 52)).drew.alloc (.cells #[.pointer (some ⟨l, 0, none⟩), .int .i64 (-1), .bool false, .bool false] 73) → Below w.heap.size w V2 ∧ Wt (w.heap.size + 1) l (-1) false false V2 ∧ Bs w.heap.size 1 N A V V2) := hide' (fun V2 hV => by
    subst hV
    refine ⟨hB.trans (((Below.refl _ _).alloc (Nat.le_refl _) _).mono hB.size), ?_, ?_⟩
    · rw [← hsz]; exact wait_wt l _
    · exact (Below.heap_alloc _ _ _ (lt_of_heap hb1)).trans hb1)
  clear hlk hX1 hb1 hX hP bel hn htr hps hK hl hme he hB
  go_enter Try.func17, Try.ntmps17
  go_wp2_with fail
  go_region_held3 (fun w' => w'.cell? ⟨s, 1, none⟩ = some (.slice (some ⟨lb, 0, none⟩) 2 2) ∧ w'.cell? ⟨w.heap.size, 1, none⟩ = some (.int .i64 N) ∧ w'.cell? ⟨lb, e, none⟩ = some (.pointer (some ⟨l, 0, none⟩))) (first | exact ⟨K1, B1, cl⟩ | exact kk | go_keep) ((first | (go_at_call 13; refine (HPk.out _).mono ?_; rintro e1 w1 ⟨rfl, rfl⟩) | (go_at_call 10; refine HC.out.mono ?_; rintro e1 w2 ⟨rfl, hw2⟩; have kk : w2.cell? ⟨s, 1, none⟩ = some (.slice (some ⟨lb, 0, none⟩) 2 2) ∧ w2.cell? ⟨w.heap.size, 1, none⟩ = some (.int .i64 N) ∧ w2.cell? ⟨lb, e, none⟩ = some (.pointer (some ⟨l, 0, none⟩)) := (by obtain ⟨z1, z2, z3⟩ := HV.out w2 hw2.out; have hx := HS.out.2.2.below z1; refine ⟨hx.c1, z3.c1, ?_⟩; rw [hw2.out]; exact (World.cell?_of_block (Below.heap_alloc _ _ _ (World.block_lt_of_cell? _ _ cl))).trans cl))))
  rename_i hHeld
  clear hHeld
  obtain ⟨z1, z2, z3⟩ := HV.out w2 hw2.out
  have hX2 := HS.out.2.2.below z1
  obtain ⟨b, hb⟩ : ∃ b, w.heap.size + 1 = b := ⟨_, rfl⟩
  have hbw : Hid (w.heap.size ≤ b) := hide' (by omega)
  rw [hb] at z2 ⊢
  have s2 := hX2.c2
  obtain ⟨L, hL⟩ : ∃ L, ps.length = L := ⟨_, rfl⟩
  have row2 := hX2.rw
  rw [List.length_map, hL] at s2 row2
  have HLp := hide' hL
  have HLn : Hid (L < 1999990) := hide' (by have := HKK.out; omega)
  have Hrow2 := hide' row2
  clear hL row2
  have HX2 := hide' (And.intro z1 (And.intro hX2 z2))
  clear kk K1 B1 cl HC HPk HV hw2 hsz hb z1 z2 z3 hX2 he'
  go_wp2_with (at_builtin; refine wpList_more (e := 29) (m := 1) Try.underlying46 info29 rfl (by omega) (by omega) w2 rfl _ _ rfl Hrow2.out (by have := HLn.out; omega) (Nat.le_trans HS.out.1.size HX2.out.1.size) [.pointer (some ⟨b, 0, none⟩)] rfl (by simp [Value.oneCell']) _ rfl rfl ?_; intro gg cap' w3 hr3 t3 hg3; have nws : ¬ At wo s := (fun z => by obtain ⟨_, _, cs', h'⟩ := row_at HX2.out.2.1.rw z; exact cells_ne HX2.out.2.1.hs h' (by decide) rfl); have a0 := (t3.cell (p := ⟨s, 2, none⟩) (lt_of_heap HX2.out.2.1.hs) nws).trans s2; have a1 : w3.frozen? ⟨s, 2, none⟩ = false := Lib.frozen_of_heap ((t3.block s (lt_of_heap HX2.out.2.1.hs) nws).trans HX2.out.2.1.hs) 2)
  have X3 : Sx w0 x y s lb l1 l2 k nx sv ps (ps.map (·.b) ++ [b]) (ps.map (·.q)) (some ⟨gg, 0, none⟩) cap' qo qc (w3.setCell ⟨s, 2, none⟩ (.slice (some ⟨gg, 0, none⟩) (L + 1) cap')) := by
    have := HX2.out.2.1.addW (b := b) (by rw [List.length_map, HLp.out]; exact hr3) t3
    rw [List.length_map, HLp.out] at this
    exact this
  have W3 : Wt b l (-1) false false (w3.setCell ⟨s, 2, none⟩ (.slice (some ⟨gg, 0, none⟩) (L + 1) cap')) := (HX2.out.2.2.kept t3 (fun z => by obtain ⟨_, _, cs', h'⟩ := row_at HX2.out.2.1.rw z; exact cells_ne HX2.out.2.2 h' (by decide) rfl)).kept (turn_b s 2 _ w3) (fun z => cells_ne HX2.out.2.2 HX2.out.2.1.hs (by decide) z)
  have T3 : Turn (fun j => At wo j ∨ j = s) w2 (w3.setCell ⟨s, 2, none⟩ (.slice (some ⟨gg, 0, none⟩) (L + 1) cap')) := (t3.mono (fun j _ z => .inl z)).trans ((turn_b s 2 _ w3).mono (fun j _ z => .inr z))
  have HX3 := hide' (And.intro X3 (And.intro W3 T3))
  clear hr3 t3 hg3 nws a0 a1 X3 W3 T3 s2
  generalize w3.setCell ⟨s, 2, none⟩ (.slice (some ⟨gg, 0, none⟩) (L + 1) cap') = V3 at *
  have s4 := HX3.out.1.c4
  have s5 := HX3.out.1.c5
  have f5 := HX3.out.1.f 5
  have row := HX3.out.1.rq
  rw [List.length_map, HLp.out] at s5 row
  have lts : s < V3.heap.size := lt_of_heap HX3.out.1.hs
  have hwB : w0.heap.size ≤ V3.heap.size := Nat.le_trans HS.out.1.size (Nat.le_trans HX2.out.1.size HX3.out.2.2.size)
  obtain ⟨i0, hi1, hz0, hz1, hz2⟩ := info_parts info84
  have n1 : Hid (L + 1 ≤ maxLen) := hide' (by have := HLn.out; unfold maxLen; omega)
  have n2 : Hid ((L + 1) * 8 ≤ 140737488355328) := hide' (by have := HLn.out; omega)
  have ne : some s ≠ (Value.slice qo L qc).ownBlock := fun z => by
    obtain ⟨_, _, cs', h'⟩ := row_at row (own_at z.symm)
    exact cells_ne HX3.out.1.hs h' (by decide) rfl
  have new4 := World.new_ne V3 ⟨s, 4, none⟩ s4
  have new5 := World.new_ne V3 ⟨s, 5, none⟩ s5
  have new2 : ∀ o o', ((V3.alloc o).alloc o').drew.heap[V3.heap.size + 1]? = some o' := fun o o' => by show ((V3.alloc o).alloc o').heap[V3.heap.size + 1]? = some o'; have := heap_alloc_new (V3.alloc o) o'; rw [show (V3.alloc o).heap.size = V3.heap.size + 1 by simp] at this; exact this
  have fal : ∀ o o', ((V3.alloc o).alloc o').drew.frozen? ⟨s, 5, none⟩ = false := fun o o' => (World.frozen?_of_block (w := V3) ((Below.heap_alloc _ _ _ (by simp; omega)).trans (Below.heap_alloc _ _ _ lts))).trans f5
  have cal : ∀ o o', ((V3.alloc o).alloc o').drew.cell? ⟨s, 5, none⟩ = some (.slice qo L qc) := fun o o' => (World.cell?_of_block (w := V3) ((Below.heap_alloc _ _ _ (by simp; omega)).trans (Below.heap_alloc _ _ _ lts))).trans s5
  have HQ := hide' (rwait_new k V3.drew)
  go_wp2_with fail
  go_region_law ((first | (refine step_append_lies _ (by rfl) _ _ _ (by rfl) w0.heap.size 84 i0 _ 1 8 Try.underlying47 hi1 hz0 hz1 hz2 rfl (by omega) (.slice qo L qc) L ((ps.map (·.q)).map ptr) (by rfl) (((row.alloc _).alloc _).drew) ⟨V3.heap.size + 1, 0, none⟩ 1 1 [.pointer (some ⟨V3.heap.size, 0, none⟩)] (by rfl) (by rfl) (World.news_of_block (cs := #[.pointer (some ⟨V3.heap.size, 0, none⟩)]) (t := 84) (fr := (0, 0)) (new2 _ _)) (by simp [Value.oneCell']) (by omega) n1.out n2.out (by simp; omega) (V3.heap.size + 2) (by simp) ?_; intro gg2 cap2 w5 hown1 hgrow hat hlt; have a0 := (hgrow.cell_far ⟨s, 5, none⟩ (by simp; omega) ne).trans (cal _ _); have a0f := (hgrow.frozen_far ⟨s, 5, none⟩ (by simp; omega) ne).trans (fal _ _)) | (go_simp; refine HQ.out.mono ?_; rintro e2 w4 ⟨rfl, rfl⟩)))
  all_goals
    have F := hide' (enter_fin (n := n) HS.out.1 HS.out.2.1 HS.out.2.2 HX2.out.1 HX3.out.1 HX3.out.2.1 HX3.out.2.2 hbw.out HL.out HKK.out.2.1 HKK.out.2.2.1 HKK.out.2.2.2 (by rw [HLp.out]; exact hown1) (by rw [HLp.out]; exact hgrow))
    rw [HLp.out] at F
    clear HS HX2 HX3 hown1 hgrow hat hlt a0 a0f s4 s5 f5 row lts hwB n1 n2 ne new4 new5 new2 fal cal HQ
    generalize w5.setCell ⟨s, 5, none⟩ (.slice (some ⟨gg2, 0, none⟩) (L + 1) cap2) = W6 at *
    go_wp2
    go_ret
    exact ⟨rfl, F.out⟩
set_option maxRecDepth 100000 in
set_option maxHeartbeats 4000000 in
theorem sc_other (d N A V : Int) (h : Sn w0 n x y s lb l1 l2 k nx sv K w) (hK : K < 1999990) (h1 : d ≠ 1) (h2 : d ≠ 2) (h3 : d ≠ 3) (h4 : d ≠ 4) (h5 : d ≠ 5) (h6 : d ≠ 6) (h7 : d ≠ 7) (h8 : d ≠ 8) :
    Calls Try.prog 17 #[.pointer (some ⟨s, 0, none⟩), .agg #[.int .i64 d, .int .i64 N, .int .i64 A, .int .i64 V]] w fun e w' => e = .returned (.bool true) ∧ Sn w0 n x y s lb l1 l2 k nx sv (K + 1) w' := by
  obtain ⟨bel, U, ws, tr, bad, ps, wo, wc, qo, qc, hP, hn, htr, hps, hX⟩ := h
  have HSn : Hid (∀ V', Below w.heap.size w V' → Sn w0 n x y s lb l1 l2 k nx sv (K + 1) V') := hide' (fun V' hb => ⟨bel.trans (hb.mono bel.size), U, ws, tr, bad, ps, wo, wc, qo, qc, pr_more (hP.below hb), hn, by omega, by omega, hX.below hb⟩)
  have hB0 : Below w.heap.size w (w.alloc (.cells #[.int .i64 d, .int .i64 N, .int .i64 A, .int .i64 V] 52)) := (Below.refl _ _).alloc (Nat.le_refl _) _
  have s2 := (hX.below hB0).c2
  rw [List.length_map] at s2
  have d1 : (d == 1) = false := by simpa using h1
  have d2 : (d == 2) = false := by simpa using h2
  have d3 : (d == 3) = false := by simpa using h3
  have d4 : (d == 4) = false := by simpa using h4
  have d5 : (d == 5) = false := by simpa using h5
  have d6 : (d == 6) = false := by simpa using h6
  have d7 : (d == 7) = false := by simpa using h7
  have d8 : (d == 8) = false := by simpa using h8
  have F := hide' (HSn.out _ hB0)
  have b0 : (w.alloc (.cells #[.int .i64 d, .int .i64 N, .int .i64 A, .int .i64 V] 52)).cell? ⟨w.heap.size, 0, none⟩ = some (.int .i64 d) := by rw [Lib.cell_of_heap (heap_alloc_new _ _)]; rfl
  have b1 : (w.alloc (.cells #[.int .i64 d, .int .i64 N, .int .i64 A, .int .i64 V] 52)).cell? ⟨w.heap.size, 1, none⟩ = some (.int .i64 N) := by rw [Lib.cell_of_heap (heap_alloc_new _ _)]; rfl
  by_cases hz : ps.length = 0
  · rw [hz] at s2
    clear bel hP hn htr hps hX HSn hB0 h1 h2 h3 h4 h5 h6 h7 h8 hz b1
    go_enter Try.func17, Try.ntmps17
    go_wp2
    go_ret
    exact ⟨rfl, F.out⟩
  · have hL0 : (0 : Int) < (ps.length : Int) := by omega
    have HPk := hide' (fun V => pick_big N (ps.length : Int) V hL0 (by omega))
    have hdz : ((ps.length : Int) == 0) = false := by rw [beq_eq_false_iff_ne]; omega
    have HB0 := hide' hB0
    clear bel hP hn htr hps hX hB0 h1 h2 h3 h4 h5 h6 h7 h8 hz hL0 F
    generalize ps.length = L at *
    generalize N % (L : Int) = zi at *
    go_enter Try.func17, Try.ntmps17
    go_wp2_with fail
    generalize w.alloc (.cells #[.int .i64 d, .int .i64 N, .int .i64 A, .int .i64 V] 52) = W at *
    generalize w.heap.size = β at *
    go_quiet ((go_at_call 13; exact Calls.quiet_of_same (HPk.out _)))
    have F := hide' (HSn.out (W.drewN nq) (HB0.out.trans ⟨rfl, rfl, rfl, Nat.le_refl _, fun _ _ => rfl⟩))
    replace b0 : (W.drewN nq).cell? ⟨β, 0, none⟩ = some (.int .i64 d) := b0
    clear HSn HB0 b1 s2 HPk hdz
    generalize W.drewN nq = V1 at *
    go_wp2
    go_ret
    exact ⟨rfl, F.out⟩
end C
end Go.Proofs.Ytnpdmeeolcjmlaa
