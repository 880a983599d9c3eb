import Derived.Test.YtihdagehenmolaaFst
set_option linter.unusedVariables false
set_option linter.unusedSimpArgs false
namespace Go.Proofs.Ytihdagehenmolaa
open Go.RowKit
namespace J
open M K
/-- what first answers: an entry, or none -/
def ans (e : Option En) : Value := match e with
  | some e => .tuple #[.agg #[.int .i64 e.v, .string (sb e.t)], .bool true]
  | none => .tuple #[.agg #[.int .i64 0, .string ⟨#[]⟩], .bool false]
def Is (l : List UInt8) (o : Option En) : Prop := match o with
  | some e => e.ok ∧ ∃ x, l = rcd e ++ x
  | none => Bare l
theorem put2 {w : World} {b : Nat} {x y : Value} {t : TypeId} {r : Nat × Nat} (h : w.heap[b]? = some (.cells #[x, y] t r)) (v0 v1 : Value) : ((w.setCell ⟨b, 0, none⟩ v0).setCell ⟨b, 1, none⟩ v1).heap[b]? = some (.cells #[v0, v1] t r) := by
  rw [set_block (set_block h)]; rfl
theorem below_put2 {B b : Nat} {w0 w : World} (h : Below B w0 w) (hlt : b ≤ w.heap.size) (hb : B ≤ b) (v0 v1 : Value) : Below B w0 ((w.setCell ⟨b, 0, none⟩ v0).setCell ⟨b, 1, none⟩ v1) :=
  h.trans ((((turn_b b 0 v0 w).trans (turn_b b 1 v1 _)).below (fun k hk => by rw [hk]; exact Nat.le_refl _) (B := b) hlt).mono hb)
theorem bdn {B : Nat} {a w : World} (h : Below B a w) (n : Nat) : Below B a (w.drewN n) := h.trans ⟨rfl, rfl, rfl, Nat.le_refl _, fun _ _ => rfl⟩
def OE : Obj := .cells #[.int .i64 0, .string ⟨#[]⟩] 24
/-- what a walk asks of a new cell of an entry -/
theorem new_facts {w W : World} {b : Nat} (h : W.heap[b]? = some (.cells #[.int .i64 0, .string ⟨#[]⟩] 24 (0, 0))) : W.cell? ⟨b, 0, none⟩ = some (.int .i64 0) ∧ W.cell? ⟨b, 1, none⟩ = some (.string ⟨#[]⟩) ∧ W.frozen? ⟨b, 0, none⟩ = false ∧ W.frozen? ⟨b, 1, none⟩ = false ∧ (∀ v, (W.setCell ⟨b, 0, none⟩ v).cell? ⟨b, 1, none⟩ = some (.string ⟨#[]⟩)) ∧ (∀ v, (W.setCell ⟨b, 0, none⟩ v).frozen? ⟨b, 1, none⟩ = false) :=
  ⟨Lib.cell_of_heap h 0, Lib.cell_of_heap h 1, Lib.frozen_of_heap h 0, Lib.frozen_of_heap h 1, fun v => (Lib.cell_of_heap (set_block h) 1).trans rfl, fun v => Lib.frozen_of_heap (set_block h) 1⟩
set_option maxRecDepth 100000 in
set_option maxHeartbeats 1000000 in
theorem first_short (l : List UInt8) (h : l.length < 17) (w : World) : Calls Try.prog 37 #[.string (sb l)] w fun e w' => ∃ o, e = .returned (ans o) ∧ Is l o ∧ Below w.heap.size w w' := by
  have z := sb_size l
  have HB : Hid (Bare l) := hide' (bare_short h)
  generalize sb l = T at *
  obtain ⟨n, hn⟩ : ∃ n, n = l.length := ⟨_, rfl⟩
  rw [← hn] at z h
  have h1 : (n : Int) < 17 := by omega
  clear h hn
  go_enter Try.func37, Try.ntmps37
  go_wp2
  exact bodyPost_ret (results_row_tmp rfl _ _ w.heap.size 24 #[.int .i64 0, .string ⟨#[]⟩] (0, 0) _ rfl (heap_alloc_new _ _) Try.underlying24 rfl (by kernel_rfl)) rfl ⟨none, rfl, HB.out, below_al w _⟩
set_option maxRecDepth 100000 in
set_option maxHeartbeats 1000000 in
theorem first_rest (l : List UInt8) (h : 17 ≤ l.length) (hml : l.length ≤ 4611686018427387904) (w : World) : Calls Try.prog 37 #[.string (sb l)] w fun e w' => ∃ o, e = .returned (ans o) ∧ Is l o ∧ Below w.heap.size w w' := by
  obtain ⟨T, hT⟩ : ∃ T, T = sb l := ⟨_, rfl⟩
  have z := sb_size l
  have x1 : (sb l).extract 0 9 = sb (l.take 9) := by rw [sb_cut]; simp
  have hl9 : (l.take 9).length = 9 := by rw [List.length_take]; omega
  obtain ⟨c1, w1, hc1, R1, b1, hcl1, hs1⟩ := conv_str (w.alloc (.cells #[.int .i64 0, .string ⟨#[]⟩] 24)) (l.take 9)
  obtain ⟨T9, hT9⟩ : ∃ T, T = sb (l.take 9) := ⟨_, rfl⟩
  obtain ⟨d1, hd1⟩ : ∃ d, d = (w.alloc (.cells #[.int .i64 0, .string ⟨#[]⟩] 24)).heap.size := ⟨_, rfl⟩
  have hb1 : w1.heap[w.heap.size]? = some (.cells #[.int .i64 0, .string ⟨#[]⟩] 24) := (b1.block _ (by simp)).trans (heap_alloc_new _ _)
  have hB1 : Below w.heap.size w w1 := (below_al w _).trans (b1.mono (by simp))
  rw [hl9] at hc1 hcl1
  rw [← hd1] at hc1 R1
  rw [← hT] at z x1 ⊢
  rw [← hT9] at hc1 x1
  obtain ⟨m, hm⟩ : ∃ m, m = l.length := ⟨_, rfl⟩
  rw [← hm] at z h hml
  have g1 : ¬ ((m : Int) < 17) := by omega
  have g9 : (9 : Int) ≤ (m : Int) := by omega
  have gc : ¬ (c1 = 5) := by omega
  have gc1 : ¬ (c1 = 1) := by omega
  have g5c : (9 : Int) ≤ (c1 : Int) := by omega
  have hg : ∀ k, k < 9 → w1.cell? ⟨d1, k, none⟩ = some (.int .u8 ((l.getD k 0).toNat : Int)) := by
    intro k hk
    rw [rw_cell R1 (by omega), List.getD_eq_getElem?_getD, List.getElem?_take_of_lt hk, ← List.getD_eq_getElem?_getD]
  have N5 := hide' (number_any (w := w1) (b := d1) (off := 5) (n := 4) (cap := c1 - 5) (Nat.le_refl _) (hg 5 (by decide)) (hg 6 (by decide)) (hg 7 (by decide)) (hg 8 (by decide)))
  have hgl : d1 < w1.heap.size := World.block_lt_of_cell? w1 _ (hg 0 (by decide))
  have N1 : Hid (∀ w', Below w1.heap.size w1 w' → Calls Try.prog 48 #[.slice (some ⟨d1, 1, none⟩) 8 (c1 - 1)] w' fun e w'' => e = .returned (.int .u32 (nm l 1 : Nat)) ∧ ∃ m, w'' = w'.drewN m) := hide' (fun w' b' => by
    have hg' : ∀ k, k < 9 → w'.cell? ⟨d1, k, none⟩ = some (.int .u8 ((l.getD k 0).toNat : Int)) := fun k hk => (b'.cell (p := ⟨d1, k, none⟩) hgl).trans (hg k hk)
    exact number_any (by decide) (hg' 1 (by decide)) (hg' 2 (by decide)) (hg' 3 (by decide)) (hg' 4 (by decide)))
  have hnm : num4 (l.getD 5 0) (l.getD 6 0) (l.getD 7 0) (l.getD 8 0) = nm l 5 := rfl
  rw [hnm] at N5
  clear hnm
  obtain ⟨n, hn⟩ : ∃ n, n = nm l 5 := ⟨_, rfl⟩
  rw [← hn] at N5
  have hnl : n < 4294967296 := by rw [hn]; exact nm_lt _ _
  have H1 := hide' (And.intro hb1 (And.intro hB1 hgl))
  have HT := hide' (And.intro hT (And.intro hm hn))
  have HM := hide' (And.intro h hml)
  have G : Hid (wrap64 ((m : Int) - 17) = (m : Int) - 17 ∧ wrap64 (n : Int) = (n : Int)) := hide' ⟨by unfold wrap64; omega, by unfold wrap64; omega⟩
  clear hn
  by_cases hbig : m < 17 + n
  · have hq : (m : Int) - 17 < (n : Int) := by omega
    have HB : Hid (Bare l) := hide' (bare_long (by rw [← HT.out.2.1, ← HT.out.2.2]; exact hbig))
    obtain ⟨gs, gn⟩ := G.out
    clear hT hT9 hd1 hm hl9 b1 hs1 R1 hb1 hB1 hgl hg h hml hnl hbig
    go_enter Try.func37, Try.ntmps37
    go_wp2_with fail
    refine N5.out.mono ?_
    rintro e w2 ⟨rfl, k2, rfl⟩
    have f1 : (w1.drewN k2).cell? ⟨w.heap.size, 0, none⟩ = some (.int .i64 0) := Lib.cell_of_heap H1.out.1 0
    have f2 : (w1.drewN k2).cell? ⟨w.heap.size, 1, none⟩ = some (.string ⟨#[]⟩) := Lib.cell_of_heap H1.out.1 1
    have f3 : (w1.drewN k2).frozen? ⟨w.heap.size, 0, none⟩ = false := Lib.frozen_of_heap H1.out.1 0
    have f4 : (w1.drewN k2).frozen? ⟨w.heap.size, 1, none⟩ = false := Lib.frozen_of_heap H1.out.1 1
    clear N5
    go_wp2
    exact bodyPost_ret (results_row_tmp rfl _ _ w.heap.size 24 #[.int .i64 0, .string ⟨#[]⟩] (0, 0) _ rfl (put2 (x := .int .i64 0) (y := .string ⟨#[]⟩) H1.out.1 _ _) Try.underlying24 rfl (by kernel_rfl)) rfl ⟨none, rfl, HB.out, below_put2 (w := w1.drewN k2) (H1.out.2.1.trans ⟨rfl, rfl, rfl, Nat.le_refl _, fun _ _ => rfl⟩) H1.out.2.1.size (Nat.le_refl _) _ _⟩
  · have hq : ¬ ((m : Int) - 17 < (n : Int)) := by omega
    have hadd : wrap64 (13 + (n : Int)) = ((13 + n : Nat) : Int) := by clear N5 N1; unfold wrap64; omega
    have q1 : (13 : Int) ≤ ((13 + n : Nat) : Int) := by omega
    have q2 : ((13 + n : Nat) : Int) ≤ (m : Int) := by omega
    have x2 : (sb l).extract 13 (13 + n) = sb ((l.drop 13).take n) := by rw [sb_cut]; simp
    have hxl : ((l.drop 13).take n).length = n := by rw [List.length_take, List.length_drop]; omega
    obtain ⟨X, hX⟩ : ∃ X, X = (l.drop 13).take n := ⟨_, rfl⟩
    obtain ⟨TX, hTX⟩ : ∃ T, T = sb X := ⟨_, rfl⟩
    rw [← hX] at x2 hxl
    rw [← hTX, ← hT] at x2
    have HX := hide' (And.intro hX (And.intro hTX hxl))
    obtain ⟨gs, gn⟩ := G.out
    obtain ⟨N, hN⟩ : ∃ N, N = nm l 1 := ⟨_, rfl⟩
    rw [← hN] at N1
    have HN1 := hide' hN
    clear hN hT hT9 hd1 hm hl9 b1 hs1 R1 hb1 hB1 hgl hg h hml hnl hbig hX hTX hxl
    go_enter Try.func37, Try.ntmps37
    go_wp2_with fail
    refine N5.out.mono ?_
    rintro e w2 ⟨rfl, k2, hw2⟩
    have B2 : Hid (Below w1.heap.size w1 w2) := hide' (by rw [hw2]; exact ⟨rfl, rfl, rfl, Nat.le_refl _, fun _ _ => rfl⟩)
    obtain ⟨c3, w3, hc3, R3, b3, hcl3, hs3⟩ := conv_str w2 X
    rw [← HX.out.2.1, HX.out.2.2] at hc3
    obtain ⟨d3, hd3⟩ : ∃ d, d = w2.heap.size := ⟨_, rfl⟩
    rw [← hd3] at hc3 R3
    have B3 := hide' (B2.out.trans (b3.mono B2.out.size))
    have HS : Hid (∀ w', Below w3.heap.size w3 w' → (convert 60 9 (.slice (some ⟨d3, 0, none⟩) n c3)).run Try.prog w' = .ok (.string TX) w') := hide' (fun w' b' => by
      have := conv_rw (R3.below b') c3
      rw [HX.out.2.2, ← HX.out.2.1] at this
      exact this)
    have HN : Hid (∀ w', Below w3.heap.size w3 w' → Calls Try.prog 48 #[.slice (some ⟨d1, 1, none⟩) 8 (c1 - 1)] w' fun e w'' => e = .returned (.int .u32 (N : Nat)) ∧ ∃ m, w'' = w'.drewN m) := hide' (fun w' b' => N1.out w' (B3.out.trans (b'.mono B3.out.size)))
    clear hw2 N5 N1 hd3 b3 hs3 R3 hcl3
    have NA := fun j => new_facts (w := w) (heap_alloc_new (w3.drewN j) (.cells #[.int .i64 0, .string ⟨#[]⟩] 24))
    have NB := fun j => new_facts (w := w) (W := (w3.alloc (.cells #[.int .i64 0, .string ⟨#[]⟩] 24)).drewN j) (b := w3.heap.size) (heap_alloc_new w3 (.cells #[.int .i64 0, .string ⟨#[]⟩] 24))
    have a0 := fun j => (NA j).1
    have a1 := fun j => (NA j).2.1
    have a2 := fun j => (NA j).2.2.1
    have a3 := fun j => (NA j).2.2.2.1
    have a4 := fun j v => (NA j).2.2.2.2.1 v
    have a5 := fun j v => (NA j).2.2.2.2.2 v
    have a6 := fun j => (NB j).1
    have a7 := fun j => (NB j).2.1
    have a8 := fun j => (NB j).2.2.1
    have a9 := fun j => (NB j).2.2.2.1
    have aa := fun j v => (NB j).2.2.2.2.1 v
    have ab := fun j v => (NB j).2.2.2.2.2 v
    simp only [show ∀ j, (w3.drewN j).heap.size = w3.heap.size from fun _ => rfl] at a0 a1 a2 a3 a4 a5
    clear NA NB
    go_wp2_with fail
    go_region_held3 (fun w' => (convert 60 9 (.slice (some ⟨d3, 0, none⟩) n c3)).run Try.prog w' = .ok (.string TX) w') (((with_reducible refine HS.out _ ?_); (repeat (first | with_reducible exact Below.refl _ _ | with_reducible refine Below.drew ?_ | with_reducible refine bdn ?_ _ | (with_reducible refine Below.setCell ?_ (by simp) _) | (with_reducible refine Below.alloc ?_ (by simp) _))))) ((with_reducible refine (HN.out _ ?_).mono ?_; rotate_left; (rintro e w4 ⟨rfl, k4, rfl⟩); rotate_left; (repeat (first | with_reducible exact Below.refl _ _ | with_reducible refine Below.drew ?_ | with_reducible refine bdn ?_ _ | (with_reducible refine Below.alloc ?_ (by simp) _)))))
    all_goals (rename_i hHeld; clear hHeld a0 a1 a2 a3 a4 a5 a6 a7 a8 a9 aa ab HS HN)
    have KW : Hid (((((w3.drewN (1 + k4)).alloc (.cells #[.int .i64 0, .string ⟨#[]⟩] 24)).setCell ⟨w3.heap.size, 0, none⟩ (.int .i64 (IntKind.i64.wrap (N : Int)))).setCell ⟨w3.heap.size, 1, none⟩ (.string TX)).heap[w3.heap.size]? = some (.cells #[.int .i64 (IntKind.i64.wrap (N : Int)), .string TX] 24 (0, 0)) ∧ Below w3.heap.size w3 ((((w3.drewN (1 + k4)).alloc (.cells #[.int .i64 0, .string ⟨#[]⟩] 24)).setCell ⟨w3.heap.size, 0, none⟩ (.int .i64 (IntKind.i64.wrap (N : Int)))).setCell ⟨w3.heap.size, 1, none⟩ (.string TX))) := hide' ⟨put2 (heap_alloc_new (w3.drewN (1 + k4)) (.cells #[.int .i64 0, .string ⟨#[]⟩] 24)) _ _, below_put2 ((bdn (Below.refl _ w3) _).alloc (Nat.le_refl _) _) (by simp) (Nat.le_refl _) _ _⟩
    generalize (((w3.drewN (1 + k4)).alloc (.cells #[.int .i64 0, .string ⟨#[]⟩] 24)).setCell ⟨w3.heap.size, 0, none⟩ (.int .i64 (IntKind.i64.wrap (N : Int)))).setCell ⟨w3.heap.size, 1, none⟩ (.string TX) = W at KW ⊢
    rotate_left
    have KW : Hid (((((w3.alloc (.cells #[.int .i64 0, .string ⟨#[]⟩] 24)).drewN (1 + k4)).setCell ⟨w3.heap.size, 0, none⟩ (.int .i64 (IntKind.i64.wrap (N : Int)))).setCell ⟨w3.heap.size, 1, none⟩ (.string TX)).heap[w3.heap.size]? = some (.cells #[.int .i64 (IntKind.i64.wrap (N : Int)), .string TX] 24 (0, 0)) ∧ Below w3.heap.size w3 ((((w3.alloc (.cells #[.int .i64 0, .string ⟨#[]⟩] 24)).drewN (1 + k4)).setCell ⟨w3.heap.size, 0, none⟩ (.int .i64 (IntKind.i64.wrap (N : Int)))).setCell ⟨w3.heap.size, 1, none⟩ (.string TX))) := hide' ⟨put2 (w := (w3.alloc (.cells #[.int .i64 0, .string ⟨#[]⟩] 24)).drewN (1 + k4)) (heap_alloc_new w3 (.cells #[.int .i64 0, .string ⟨#[]⟩] 24)) _ _, below_put2 (bdn ((Below.refl _ w3).alloc (Nat.le_refl _) _) _) (by simp) (Nat.le_refl _) _ _⟩
    generalize (((w3.alloc (.cells #[.int .i64 0, .string ⟨#[]⟩] 24)).drewN (1 + k4)).setCell ⟨w3.heap.size, 0, none⟩ (.int .i64 (IntKind.i64.wrap (N : Int)))).setCell ⟨w3.heap.size, 1, none⟩ (.string TX) = W at KW ⊢
    all_goals clear hc3 x1 x2 hc1 gs gn hadd q1 q2 hq g1 g9 gc gc1 g5c z
    all_goals (
      have wN : IntKind.i64.wrap (N : Int) = (N : Int) := by
        have := nm_lt l 1
        rw [← HN1.out] at this
        rw [IntKind.wrap_i64]
        omega
      have HE : Hid (ent l = ⟨(N : Int), X⟩) := hide' (by unfold ent; rw [HN1.out, HX.out.1, HT.out.2.2])
      rw [wN] at KW ⊢
      rw [HX.out.2.1] at KW ⊢
      have F1 := hide' (frame_any ⟨(N : Int), X⟩ W)
      have BW : Hid (Below w1.heap.size w1 W) := hide' (B3.out.trans (KW.out.2.mono B3.out.size))
      have c0 := Lib.cell_of_heap KW.out.1 0
      have c1' := Lib.cell_of_heap KW.out.1 1
      clear wN
      obtain ⟨TY, hTY⟩ : ∃ T, T = sb X := ⟨_, rfl⟩
      simp only at F1
      rw [← hTY] at KW c1' F1 ⊢
      have HY := hide' hTY
      clear hTY
      go_wp2_with fail
      refine F1.out.mono ?_
      rintro e w5 ⟨rfl, b5⟩
      have h5 : w5.heap[w.heap.size]? = some (.cells #[.int .i64 0, .string ⟨#[]⟩] 24) := (b5.block _ (Nat.lt_of_lt_of_le (lt_of_heap H1.out.1) BW.out.size)).trans ((BW.out.block _ (lt_of_heap H1.out.1)).trans H1.out.1)
      have h6 : w5.heap[w3.heap.size]? = some (.cells #[.int .i64 (N : Int), .string TY] 24) := (b5.block _ (lt_of_heap KW.out.1)).trans KW.out.1
      have H5 : Hid (w5.heap[w.heap.size]? = some (.cells #[.int .i64 0, .string ⟨#[]⟩] 24) ∧ Below w.heap.size w w5) := hide' ⟨h5, H1.out.2.1.trans ((BW.out.trans (b5.mono BW.out.size)).mono H1.out.2.1.size)⟩
      obtain ⟨a0, a1, a2, a3, a4, a5⟩ := new_facts (w := w) h5
      have p0 := Lib.cell_of_heap h6 0
      have p1 := Lib.cell_of_heap h6 1
      obtain ⟨FS, hFS⟩ : ∃ T, T = sb (frs ⟨(N : Int), X⟩) := ⟨_, rfl⟩
      rw [← hFS]
      clear h5 h6 b5 F1 c0 c1' KW BW B3 B2 H1
      by_cases hok : frc ⟨(N : Int), X⟩ = 0
      · have ok := ok_frc hok
        rw [frs_ok ok] at hFS
        rw [hok]
        by_cases hp : ∃ x, l = rcd ⟨(N : Int), X⟩ ++ x
        · have P1 : Hid (Calls Try.prog 49 #[.string T, .string FS] w5 fun e w' => e = .returned (.bool true) ∧ w' = w5) := hide' (by
            obtain ⟨x, hx⟩ := hp
            rw [HT.out.1, hFS]
            exact hasPrefix_yes l _ x hx w5)
          have HI : Hid (Is l (some ⟨(N : Int), X⟩)) := hide' ⟨ok, hp⟩
          clear hp ok hFS hok
          go_wp2_with fail
          refine P1.out.mono ?_
          rintro e w6 ⟨rfl, rfl⟩
          clear P1
          go_wp2
          exact bodyPost_ret (results_row_tmp rfl _ _ w.heap.size 24 #[.int .i64 (N : Int), .string TY] (0, 0) _ rfl (put2 H5.out.1 _ _) Try.underlying24 rfl (by kernel_rfl)) rfl ⟨some ⟨(N : Int), X⟩, by rw [HY.out]; rfl, HI.out, below_put2 H5.out.2 H5.out.2.size (Nat.le_refl _) _ _⟩
        · have P1 : Hid (Calls Try.prog 49 #[.string T, .string FS] w5 fun e w' => e = .returned (.bool false) ∧ w' = w5) := hide' (by
            rw [HT.out.1, hFS]
            exact hasPrefix_no l _ (fun x hx => hp ⟨x, hx⟩) w5)
          have HI : Hid (Is l none) := hide' (bare_of (fun x _ hx => hp ⟨x, by rw [HE.out] at hx; exact hx⟩))
          clear hp ok hFS hok
          go_wp2_with fail
          refine P1.out.mono ?_
          rintro e w6 ⟨rfl, rfl⟩
          clear P1
          go_wp2
          exact bodyPost_ret (results_row_tmp rfl _ _ w.heap.size 24 #[.int .i64 0, .string ⟨#[]⟩] (0, 0) _ rfl (put2 H5.out.1 _ _) Try.underlying24 rfl (by kernel_rfl)) rfl ⟨none, rfl, HI.out, below_put2 H5.out.2 H5.out.2.size (Nat.le_refl _) _ _⟩
      · have HI : Hid (Is l none) := hide' (bare_of (fun x k _ => hok (frc_ok (by rw [HE.out] at k; exact k))))
        obtain ⟨fc, hfc⟩ : ∃ c, c = frc ⟨(N : Int), X⟩ := ⟨_, rfl⟩
        rw [← hfc] at hok ⊢
        have hfb : (fc == 0) = false := beq_false_of_ne hok
        clear hFS hfc
        go_wp2
        exact bodyPost_ret (results_row_tmp rfl _ _ w.heap.size 24 #[.int .i64 0, .string ⟨#[]⟩] (0, 0) _ rfl (put2 H5.out.1 _ _) Try.underlying24 rfl (by kernel_rfl)) rfl ⟨none, rfl, HI.out, below_put2 H5.out.2 H5.out.2.size (Nat.le_refl _) _ _⟩)
theorem first_any (l : List UInt8) (hml : l.length ≤ 4611686018427387904) (w : World) : Calls Try.prog 37 #[.string (sb l)] w fun e w' => ∃ o, e = .returned (ans o) ∧ Is l o ∧ Below w.heap.size w w' := by
  by_cases h : l.length < 17
  · exact first_short l h w
  · exact first_rest l (by omega) hml w
end J
end Go.Proofs.Ytihdagehenmolaa
