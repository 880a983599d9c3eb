import Derived.Test.YtppcofopnelgjaaGreatDoorGrI
import Derived.Laws.StructEq
set_option linter.unusedVariables false
set_option linter.unusedSimpArgs false
namespace Go.Proofs.YtppcofopnelgjaaGreatDoor
open Go.RowKit
theorem row_cells {w : World} {B : Nat} {e : TypeId} {size : Nat} {v : Value} {n : Nat} {xs : List Value} (h : w.ownsRow B e size v n xs) (hn : 0 < n) :
    ∃ g cap, v = .slice (some ⟨g, 0, none⟩) n cap ∧ n ≤ cap ∧ B ≤ g ∧ g < w.heap.size ∧ ∀ j u, xs[j]? = some u → w.cell? ⟨g, j, none⟩ = some u := by
  rcases h.2 with ⟨_, h2⟩ | ⟨g, cap, cur, hv, hB, hg, hc, hrest⟩
  · omega
  · subst hv
    have hcells := h.cells rfl
    refine ⟨g, cap, rfl, hc, hB, (h.lt g rfl).2, fun j u hj => ?_⟩
    have := hcells j u hj
    rw [addr_add] at this
    exact this
theorem alive_cells {B : Nat} {ps : List (R.Dc × Value)} {v : Value} {w : World} (h : Dcs B ps v w) (hp : aliveD = ps.map Prod.fst) :
    ∃ g cap h1 k1 a4 k4, v = .slice (some ⟨g, 0, none⟩) 5 cap ∧ 5 ≤ cap ∧ w.cell? ⟨g, 0, none⟩ = some (.int .i8 3) ∧ w.cell? ⟨g, 22, none⟩ = some (.slice (some ⟨h1, 0, none⟩) 2 k1) ∧ w.cell? ⟨g, 25, none⟩ = some (.float .f64 4602678819172646912) ∧ w.cell? ⟨h1, 3, none⟩ = some (.string ⟨#[99]⟩) ∧ w.cell? ⟨g, 29, none⟩ = some (.string ⟨#[98]⟩) ∧ w.cell? ⟨g, 45, none⟩ = some (.string ⟨#[100]⟩) ∧ w.cell? ⟨g, 49, none⟩ = some (.bool true) ∧ w.cell? ⟨g, 50, none⟩ = some (.int .i8 2) ∧ w.cell? ⟨g, 51, none⟩ = some (.float .f64 4607182418800017408) ∧ w.cell? ⟨g, 53, none⟩ = some (.int .i64 5) ∧ w.cell? ⟨g, 61, none⟩ = some (.slice a4 1 k4) := by
  have hl : ps.length = 5 := by have := congrArg List.length hp; simpa [aliveD] using this.symm
  match ps, hl with
  | [(d0, s0), (d1, s1), (d2, s2), (d3, s3), (d4, s4)], _ =>
    simp only [aliveD, List.map_cons, List.map_nil, List.cons.injEq, and_true] at hp
    obtain ⟨rfl, rfl, rfl, rfl, rfl⟩ := hp
    obtain ⟨g, cap, rfl, hc, _, _, hcell⟩ := row_cells h.row (by simp)
    obtain ⟨h1, k1, e1, _, _, _, n1⟩ := row_cells (h.names _ (List.mem_cons_of_mem _ (List.mem_cons_self ..))) (by simp)
    obtain ⟨a4, k4, e4⟩ := row_form (h.names _ (List.mem_cons_of_mem _ (List.mem_cons_of_mem _ (List.mem_cons_of_mem _ (List.mem_cons_of_mem _ (List.mem_cons_self ..))))))
    simp only at e1 e4
    subst e1 e4
    exact ⟨g, cap, h1, k1, a4, k4, rfl, hc, hcell 0 _ rfl, hcell 22 _ rfl, hcell 25 _ rfl, n1 3 _ rfl, hcell 29 _ rfl, hcell 45 _ rfl, hcell 49 _ rfl, hcell 50 _ rfl, hcell 51 _ rfl, hcell 53 _ rfl, hcell 61 _ rfl⟩
set_option maxRecDepth 100000 in
set_option maxHeartbeats 4000000 in
theorem alive_any (B : Nat) (w : World) (hT : TbB B w) :
    Calls Tryz.prog 11 #[] w fun e w' => e = .returned (.bool true) ∧ Below w.heap.size w w' := by
  have HP := hide' (parse_alive B w hT)
  unfold aliveT at HP
  have f1 : (FloatKind.f64.format.order 4602678819172646912 4602678819172646912 == some .eq) = true := by kernel_rfl
  have f2 : (FloatKind.f64.format.order 4607182418800017408 4607182418800017408 == some .eq) = true := by kernel_rfl
  go_enter Tryz.func11, Tryz.ntmps11
  go_wp2_with (go_at_call 13; refine HP.out.mono ?_; rintro e w1 ⟨⟨ps, v, rfl, hps, hd⟩, b1⟩; obtain ⟨g, cap, h1, k1, a4, k4, rfl, hc, c0, c22, c25, ch, c29, c45, c49, c50, c51, c53, c61⟩ := alive_cells hd hps; have B1 := hide' b1; clear hd hps b1)
  go_ret
  exact ⟨rfl, B1.out⟩
set_option maxRecDepth 100000 in
theorem parseNames_walk (B : Nat) (w : World) (hT : TbB B w) : Calls Tryz.prog 3 #[] w fun e w' => e = .returned (.bool true) ∧ Below w.heap.size w w' := by
  have HA := hide' (alive_any B w hT)
  clear hT
  go_enter Tryz.func3, Tryz.ntmps3
  go_wp2_with (go_at_call 11; refine HA.out.mono ?_; rintro e w1 ⟨rfl, b1⟩)
  go_ret
  exact ⟨rfl, b1⟩
end Go.Proofs.YtppcofopnelgjaaGreatDoor
set_option linter.unusedVariables false
set_option linter.unusedSimpArgs false
namespace Go.Proofs.YtppcofopnelgjaaGreatDoor
open Go.RowKit
theorem flat3 (l : List R.Wd) : ∀ (k : Nat) (x : R.Wd), l[k]? = some x → (l.flatMap wcells)[k * 3]? = some (.string x.1) ∧ (l.flatMap wcells)[k * 3 + 1]? = some (.int .i64 x.2.1) ∧ (l.flatMap wcells)[k * 3 + 2]? = some (.int .i64 x.2.2) := by
  induction l with
  | nil => intro k x h; simp at h
  | cons y l ih =>
    intro k x h
    cases k with
    | zero =>
      simp at h
      subst h
      exact ⟨rfl, rfl, rfl⟩
    | succ k =>
      obtain ⟨h1, h2, h3⟩ := ih k x (by simpa using h)
      have e : (y :: l).flatMap wcells = .string y.1 :: .int .i64 y.2.1 :: .int .i64 y.2.2 :: l.flatMap wcells := rfl
      rw [e, show (k + 1) * 3 = k * 3 + 1 + 1 + 1 by omega]
      exact ⟨by simpa using h1, by simpa using h2, by simpa using h3⟩
/-- a name's cells in a row -/
theorem name_cells {w : World} {B : Nat} {v : Value} {l : List R.Wd} (h : w.ownsRow B 55 3 v l.length (l.flatMap wcells)) {k : Nat} {x : R.Wd} (hx : l[k]? = some x) :
    ∃ g cap, v = .slice (some ⟨g, 0, none⟩) l.length cap ∧ l.length ≤ cap ∧ g < w.heap.size ∧ w.cell? ⟨g, k * 3, none⟩ = some (.string x.1) ∧ w.cell? ⟨g, k * 3 + 1, none⟩ = some (.int .i64 x.2.1) ∧ w.cell? ⟨g, k * 3 + 2, none⟩ = some (.int .i64 x.2.2) := by
  have hl : 0 < l.length := by have := (List.getElem?_eq_some_iff.1 hx).1; omega
  obtain ⟨g, cap, h1, h2, _, h4, h5⟩ := row_cells h hl
  obtain ⟨f1, f2, f3⟩ := flat3 l k x hx
  exact ⟨g, cap, h1, h2, h4, h5 _ _ f1, h5 _ _ f2, h5 _ _ f3⟩
set_option maxRecDepth 100000 in
set_option maxHeartbeats 8000000 in
theorem same_eq (d : R.Dc) (sv sv' : Value) (B B' : Nat) (w : World) (h : w.ownsRow B 55 3 sv d.names.length (d.names.flatMap wcells)) (h' : w.ownsRow B' 55 3 sv' d.names.length (d.names.flatMap wcells))
    (few : d.names.length ≤ R.lim) (hf : (FloatKind.f64.format.order d.level d.level == some .eq) = true) :
    Calls Tryz.prog 31 #[.agg (dl d sv).toArray, .agg (dl d sv').toArray] w fun e w' => e = .returned (.bool true) ∧ Below w.heap.size w w' := by
  obtain ⟨sa, sc, rfl⟩ := row_form h
  obtain ⟨sa', sc', rfl⟩ := row_form h'
  have hlen : (d.names.length : Int) < 1099511627777 := by unfold R.lim at few; omega
  have H := hide' (And.intro h (And.intro h' hlen))
  clear h h' few hlen
  unfold dl
  obtain ⟨kd, ln, cl, ⟨h1, h2, h3⟩, ⟨o1, o2, o3⟩, names, al, cd, lv⟩ := d
  simp only at H hf ⊢
  go_enter Tryz.func31, Tryz.ntmps31
  go_wp2
  obtain ⟨W, hW, k1, k2, bel⟩ : ∃ W, (w.alloc (.cells #[.int .i8 kd, .int .i64 ln, .int .i64 cl, .string h1, .int .i64 h2, .int .i64 h3, .string o1, .int .i64 o2, .int .i64 o3, .slice sa names.length sc, .bool al, .int .i8 cd, .float .f64 lv] 59)).alloc (.cells #[.int .i8 kd, .int .i64 ln, .int .i64 cl, .string h1, .int .i64 h2, .int .i64 h3, .string o1, .int .i64 o2, .int .i64 o3, .slice sa' names.length sc', .bool al, .int .i8 cd, .float .f64 lv] 59) = W ∧ Bk w.heap.size [.int .i8 kd, .int .i64 ln, .int .i64 cl, .string h1, .int .i64 h2, .int .i64 h3, .string o1, .int .i64 o2, .int .i64 o3, .slice sa names.length sc, .bool al, .int .i8 cd, .float .f64 lv] W ∧ Bk (w.heap.size + 1) [.int .i8 kd, .int .i64 ln, .int .i64 cl, .string h1, .int .i64 h2, .int .i64 h3, .string o1, .int .i64 o2, .int .i64 o3, .slice sa' names.length sc', .bool al, .int .i8 cd, .float .f64 lv] W ∧ Below w.heap.size w W :=
    ⟨_, rfl, (Below.heap_alloc _ _ _ (by simp)).trans (heap_alloc_new _ _), (by have := heap_alloc_new (w.alloc (.cells #[.int .i8 kd, .int .i64 ln, .int .i64 cl, .string h1, .int .i64 h2, .int .i64 h3, .string o1, .int .i64 o2, .int .i64 o3, .slice sa names.length sc, .bool al, .int .i8 cd, .float .f64 lv] 59)) (.cells #[.int .i8 kd, .int .i64 ln, .int .i64 cl, .string h1, .int .i64 h2, .int .i64 h3, .string o1, .int .i64 o2, .int .i64 o3, .slice sa' names.length sc', .bool al, .int .i8 cd, .float .f64 lv] 59); unfold Bk; simpa using this), (((Below.refl _ _).alloc (Nat.le_refl _) _).alloc (by simp) _)⟩
  rw [hW]
  clear hW
  have x0 := k1.cell 0 _ rfl
  have y0 := k2.cell 0 _ rfl
  have x1 := k1.cell 1 _ rfl
  have y1 := k2.cell 1 _ rfl
  have x2 := k1.cell 2 _ rfl
  have y2 := k2.cell 2 _ rfl
  have x3 := k1.cell 3 _ rfl
  have y3 := k2.cell 3 _ rfl
  have x4 := k1.cell 4 _ rfl
  have y4 := k2.cell 4 _ rfl
  have x5 := k1.cell 5 _ rfl
  have y5 := k2.cell 5 _ rfl
  have x6 := k1.cell 6 _ rfl
  have y6 := k2.cell 6 _ rfl
  have x7 := k1.cell 7 _ rfl
  have y7 := k2.cell 7 _ rfl
  have x8 := k1.cell 8 _ rfl
  have y8 := k2.cell 8 _ rfl
  have x9 := k1.cell 9 _ rfl
  have y9 := k2.cell 9 _ rfl
  have x10 := k1.cell 10 _ rfl
  have y10 := k2.cell 10 _ rfl
  have x11 := k1.cell 11 _ rfl
  have y11 := k2.cell 11 _ rfl
  have x12 := k1.cell 12 _ rfl
  have y12 := k2.cell 12 _ rfl
  have HB := hide' bel
  clear k1 k2 bel
  go_loopw [5] (fun vi wx => ∃ (m k : Nat), wx = W.drewN m ∧ k ≤ names.length ∧ vi = .int .i64 (k : Int)) (fun vi _ => names.length - idxOf vi)
  case atStart => exact ⟨0, 0, rfl, Nat.zero_le _, rfl⟩
  case round =>
    obtain ⟨m, k, rfl, hk, rfl⟩ := hrel
    by_cases hkl : k < names.length
    · obtain ⟨g, cap, e1, hc1, hl1, p0, p1, p2⟩ := name_cells H.out.1 (List.getElem?_eq_getElem hkl)
      obtain ⟨g', cap', e1', hc2, hl2, r0, r1, r2⟩ := name_cells H.out.2.1 (List.getElem?_eq_getElem hkl)
      have hkw : IntKind.i64.wrap ((k : Int) + 1) = (k : Int) + 1 := by
        have := H.out.2.2
        rw [IntKind.wrap_i64]; omega
      cases e1
      cases e1'
      have p0' := (HB.out.cell (p := ⟨g, _, none⟩) hl1).trans p0
      have p1' := (HB.out.cell (p := ⟨g, _, none⟩) hl1).trans p1
      have p2' := (HB.out.cell (p := ⟨g, _, none⟩) hl1).trans p2
      have r0' := (HB.out.cell (p := ⟨g', _, none⟩) hl2).trans r0
      have r1' := (HB.out.cell (p := ⟨g', _, none⟩) hl2).trans r1
      have r2' := (HB.out.cell (p := ⟨g', _, none⟩) hl2).trans r2
      generalize names[k] = x at *
      obtain ⟨xa, xb, xc⟩ := x
      simp only at p0' p1' p2' r0' r1' r2'
      clear p0 p1 p2 r0 r1 r2
      go_wp2
      go_quiet (fail)
      go_wp2
      exact ⟨⟨m + nq, k + 1, rfl, by omega, by simp⟩, by simp [idxOf]; omega⟩
    · go_wp2
      go_ret
      exact ⟨ret_bool (by simp [hf]), HB.out.trans (below_drewN _ _ _)⟩
end Go.Proofs.YtppcofopnelgjaaGreatDoor
set_option linter.unusedVariables false
set_option linter.unusedSimpArgs false
namespace Go.Proofs.YtppcofopnelgjaaGreatDoor
open Go.RowKit
theorem flat13 (l : List (R.Dc × Value)) : ∀ (k : Nat) (p : R.Dc × Value), l[k]? = some p → ∀ c, c < 13 → (l.flatMap fun p => dl p.1 p.2)[k * 13 + c]? = (dl p.1 p.2)[c]? := by
  induction l with
  | nil => intro k p h; simp at h
  | cons y l ih =>
    intro k p h c hc
    cases k with
    | zero =>
      simp at h
      subst h
      rw [List.flatMap_cons, Nat.zero_mul, Nat.zero_add, List.getElem?_append_left (by rw [dl_len]; exact hc)]
    | succ k =>
      rw [List.flatMap_cons, List.getElem?_append_right (by rw [dl_len]; omega), dl_len, show (k + 1) * 13 + c - 13 = k * 13 + c by omega]
      exact ih k p (by simpa using h) c hc
/-- what a declaration's numbers must be to be like themselves -/
def R.Dc.Fine (d : R.Dc) : Prop := d.names.length ≤ R.lim ∧ (FloatKind.f64.format.order d.level d.level == some .eq) = true
theorem Dcs.cells {B : Nat} {ps : List (R.Dc × Value)} {v : Value} {w : World} (h : Dcs B ps v w) {k : Nat} {p : R.Dc × Value} (hp : ps[k]? = some p) :
    ∃ g cap, v = .slice (some ⟨g, 0, none⟩) ps.length cap ∧ ps.length ≤ cap ∧ g < w.heap.size ∧ ∀ c u, (dl p.1 p.2)[c]? = some u → w.cell? ⟨g, k * 13 + c, none⟩ = some u := by
  have hl : 0 < ps.length := by have := (List.getElem?_eq_some_iff.1 hp).1; omega
  obtain ⟨g, cap, h1, h2, _, h4, h5⟩ := row_cells h.row hl
  refine ⟨g, cap, h1, h2, h4, fun c u hu => h5 _ _ ?_⟩
  have hc : c < 13 := by have := (List.getElem?_eq_some_iff.1 hu).1; rw [dl_len] at this; exact this
  rw [flat13 ps k p hp c hc]; exact hu
set_option maxRecDepth 100000 in
set_option maxHeartbeats 8000000 in
theorem alike_eq (ps ps' : List (R.Dc × Value)) (v v' : Value) (B B' : Nat) (w : World) (h : Dcs B ps v w) (h' : Dcs B' ps' v' w) (he : ps.map Prod.fst = ps'.map Prod.fst) (fine : ∀ p ∈ ps, p.1.Fine) (few : ps.length ≤ R.lim) :
    Calls Tryz.prog 16 #[v, v'] w fun e w' => e = .returned (.bool true) ∧ Below w.heap.size w w' := by
  have hlen : ps'.length = ps.length := by have := congrArg List.length he; simpa using this.symm
  obtain ⟨sa, sc, rfl⟩ := row_form h.row
  obtain ⟨sa', sc', rfl⟩ := row_form h'.row
  rw [hlen]
  have hl : (ps.length : Int) < 1099511627777 := by unfold R.lim at few; omega
  rw [hlen] at h'
  have H := hide' (And.intro h (And.intro h' (And.intro he (And.intro fine (And.intro hlen hl)))))
  clear h h' he fine few hl
  go_enter Tryz.func16, Tryz.ntmps16
  go_wp2
  go_loopw [5] (fun vi wx => ∃ k : Nat, Below w.heap.size w wx ∧ k ≤ ps.length ∧ vi = .int .i64 (k : Int)) (fun vi _ => ps.length - idxOf vi)
  case atStart => exact ⟨0, Below.refl _ _, Nat.zero_le _, rfl⟩
  case round =>
    obtain ⟨k, hb, hk, rfl⟩ := hrel
    by_cases hkl : k < ps.length
    · obtain ⟨hD, hD', he, fine, hlen, hl⟩ := H.out
      obtain ⟨p, hp⟩ : ∃ p, ps[k]? = some p := ⟨_, List.getElem?_eq_getElem hkl⟩
      obtain ⟨p', hp'⟩ : ∃ p, ps'[k]? = some p := ⟨_, List.getElem?_eq_getElem (by omega)⟩
      obtain ⟨g, cap, e1, hc1, hl1, q1⟩ := hD.cells hp
      obtain ⟨g', cap', e2, hc2, hl2, q2⟩ := hD'.cells hp'
      have hpp : p.1 = p'.1 := by
        have := congrArg (·[k]?) he
        simpa [hp, hp'] using this
      have hm := List.mem_of_getElem? hp
      have hm' := List.mem_of_getElem? hp'
      have n1 := (turn_below (S := fun _ => False) hb).row (hD.names p hm) (fun _ _ q => q)
      have n2 := (turn_below (S := fun _ => False) hb).row (hD'.names p' hm') (fun _ _ q => q)
      have hfi := fine p hm
      have hkw : IntKind.i64.wrap ((k : Int) + 1) = (k : Int) + 1 := by
        rw [IntKind.wrap_i64]; omega
      cases e1
      simp only [Value.slice.injEq] at e2
      obtain ⟨rfl, ell, rfl⟩ := e2
      clear ell
      obtain ⟨d, sv⟩ := p
      obtain ⟨d', sv'⟩ := p'
      simp only at hpp
      subst hpp
      simp only at n1 n2 q1 q2 hfi
      obtain ⟨ta, tc, rfl⟩ := row_form n1
      obtain ⟨ta', tc', rfl⟩ := row_form n2
      have SQ := hide' fun W (b : Below wr.heap.size wr W) => same_eq d (.slice ta d.names.length tc) (.slice ta' d.names.length tc') _ _ W ((turn_below (S := fun _ => False) b).row n1 (fun _ _ q => q)) ((turn_below (S := fun _ => False) b).row n2 (fun _ _ q => q)) hfi.1 hfi.2
      unfold dl at SQ q1 q2
      try simp only at SQ q1 q2
      have x0 := (hb.cell (p := ⟨g, _, none⟩) hl1).trans (q1 0 _ rfl)
      have y0 := (hb.cell (p := ⟨g', _, none⟩) hl2).trans (q2 0 _ rfl)
      have x1 := (hb.cell (p := ⟨g, _, none⟩) hl1).trans (q1 1 _ rfl)
      have y1 := (hb.cell (p := ⟨g', _, none⟩) hl2).trans (q2 1 _ rfl)
      have x2 := (hb.cell (p := ⟨g, _, none⟩) hl1).trans (q1 2 _ rfl)
      have y2 := (hb.cell (p := ⟨g', _, none⟩) hl2).trans (q2 2 _ rfl)
      have x3 := (hb.cell (p := ⟨g, _, none⟩) hl1).trans (q1 3 _ rfl)
      have y3 := (hb.cell (p := ⟨g', _, none⟩) hl2).trans (q2 3 _ rfl)
      have x4 := (hb.cell (p := ⟨g, _, none⟩) hl1).trans (q1 4 _ rfl)
      have y4 := (hb.cell (p := ⟨g', _, none⟩) hl2).trans (q2 4 _ rfl)
      have x5 := (hb.cell (p := ⟨g, _, none⟩) hl1).trans (q1 5 _ rfl)
      have y5 := (hb.cell (p := ⟨g', _, none⟩) hl2).trans (q2 5 _ rfl)
      have x6 := (hb.cell (p := ⟨g, _, none⟩) hl1).trans (q1 6 _ rfl)
      have y6 := (hb.cell (p := ⟨g', _, none⟩) hl2).trans (q2 6 _ rfl)
      have x7 := (hb.cell (p := ⟨g, _, none⟩) hl1).trans (q1 7 _ rfl)
      have y7 := (hb.cell (p := ⟨g', _, none⟩) hl2).trans (q2 7 _ rfl)
      have x8 := (hb.cell (p := ⟨g, _, none⟩) hl1).trans (q1 8 _ rfl)
      have y8 := (hb.cell (p := ⟨g', _, none⟩) hl2).trans (q2 8 _ rfl)
      have x9 := (hb.cell (p := ⟨g, _, none⟩) hl1).trans (q1 9 _ rfl)
      have y9 := (hb.cell (p := ⟨g', _, none⟩) hl2).trans (q2 9 _ rfl)
      have x10 := (hb.cell (p := ⟨g, _, none⟩) hl1).trans (q1 10 _ rfl)
      have y10 := (hb.cell (p := ⟨g', _, none⟩) hl2).trans (q2 10 _ rfl)
      have x11 := (hb.cell (p := ⟨g, _, none⟩) hl1).trans (q1 11 _ rfl)
      have y11 := (hb.cell (p := ⟨g', _, none⟩) hl2).trans (q2 11 _ rfl)
      have x12 := (hb.cell (p := ⟨g, _, none⟩) hl1).trans (q1 12 _ rfl)
      have y12 := (hb.cell (p := ⟨g', _, none⟩) hl2).trans (q2 12 _ rfl)
      rw [Nat.add_zero] at x0 y0
      have HB := hide' hb
      rw [hlen] at hc2
      clear hD hD' he fine hlen hl hp hp' q1 q2 n1 n2 hfi hm hm' hb H
      go_wp2
      go_region_with (go_at_call 31; refine (SQ.out _ (Below.refl _ _).drew).mono ?_; rintro e W2 ⟨rfl, bw⟩)
      all_goals clear SQ x0 x1 x2 x3 x4 x5 x6 x7 x8 x9 x10 x11 x12 y0 y1 y2 y3 y4 y5 y6 y7 y8 y9 y10 y11 y12
      all_goals try go_wp2
      all_goals
        refine ⟨⟨k + 1, ?_, by omega, by simp⟩, by simp [idxOf]; omega⟩
        exact HB.out.trans (((Below.refl _ _).drew.trans (bw.mono (Nat.le_refl _))).mono HB.out.size)
    · have HB := hide' hb
      clear hb
      go_wp2
      go_ret
      exact ⟨rfl, HB.out⟩
end Go.Proofs.YtppcofopnelgjaaGreatDoor
