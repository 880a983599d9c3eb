import Derived.Test.YtppcofopnelgjaaGreatDoorGrA
import Derived.Deep.RegionHeld3
set_option linter.unusedVariables false
set_option linter.unusedSimpArgs false
namespace Go.Proofs.YtppcofopnelgjaaGreatDoor
open Go.RowKit
theorem keep4 {w : World} {g : Nat} {x y z u : Value} {p : Addr} {v : Value} (h : w.cell? p = some v) (hne : ¬ p.block = g) : ((((w.setCell ⟨g, 0, none⟩ x).setCell ⟨g, 1, none⟩ y).setCell ⟨g, 2, none⟩ z).setCell ⟨g, 3, none⟩ u).drew.cell? p = some v := ((turn4 w g x y z u).cell (lt_of_cell h) hne).trans h
theorem results44 {fn : Func} {p : Tmp} (h : fn.results = #[.cell p 44]) (tmps : Array Value) (w : World) (g : Nat) (a b c d : Value) (hp : tmps.getD p undef = .pointer (some ⟨g, 0, none⟩)) (t : Tk g a b c d w) :
    (results fn tmps).run Tryz.prog w = .ok (.agg #[a, b, c, d]) w := results_cells h tmps w g _ [a, b, c, d] hp Tryz.underlying44 rfl (by kernel_rfl) (cells4' t.c0 t.c1 t.c2 t.c3)
theorem Tk.drew {g : Nat} {a b c d : Value} {w : World} (h : Tk g a b c d w) : Tk g a b c d w.drew := h.of_block rfl
theorem below4 {B g : Nat} (w : World) (hg : B ≤ g) (a b c d : Value) : Below B w ((((w.setCell ⟨g, 0, none⟩ a).setCell ⟨g, 1, none⟩ b).setCell ⟨g, 2, none⟩ c).setCell ⟨g, 3, none⟩ d) :=
  (((((Below.refl _ _).setCell (p := ⟨g, 0, none⟩) hg _).setCell (p := ⟨g, 1, none⟩) hg _).setCell (p := ⟨g, 2, none⟩) hg _).setCell (p := ⟨g, 3, none⟩) hg _)
set_option maxRecDepth 100000 in
set_option maxHeartbeats 16000000 in
theorem rpeek_any {I : R.Src} {ao : Option Addr} {cap b i : Nat} {w : World} (h : Rdr I ao cap b i w) :
    Calls Tryz.prog 106 #[.pointer (some ⟨b, 0, none⟩)] w fun e w' => e = .returned (tv (I.at i)) ∧ Below w.heap.size w w' := by
  have lt := h.lt
  have hle := h.le
  have H := hide' h
  unfold tv
  by_cases hi : i < I.l.length
  · have e1 : Hid (((i : Int) == (I.l.length : Int)) = false) := by show _ = _; simp; omega
    obtain ⟨tb, to, rfl, hS, hl, q0, q1, q2, q3⟩ := h.tok i _ (R.at_lt hi)
    generalize I.at i = t at *
    obtain ⟨tk, tt, tl, tc⟩ := t
    simp only at q0 q1 q2 q3 ⊢
    have HA := hide' fun w (h : Rdr I (some ⟨tb, to, none⟩) cap b i w) => atEnd_any h
    rw [e1.out] at HA
    have Q := hide' (And.intro q0 (And.intro q1 (And.intro q2 q3)))
    clear h hS e1 q0 q1 q2 q3
    go_enter Tryz.func106, Tryz.ntmps106
    go_wp2_with (go_at_call 58; refine (HA.out _ (H.out.alloc _)).mono ?_; rintro e w1 ⟨rfl, b1⟩; have r1 := (H.out.alloc _).below b1; have d0 := r1.c0; have d5 := r1.c5; have bb := old_kept b1; have p0 := (bb.cell (p := ⟨tb, to + i * 4, none⟩) hl).trans Q.out.1; have p1 := (bb.cell (p := ⟨tb, to + i * 4 + 1, none⟩) hl).trans Q.out.2.1; have p2 := (bb.cell (p := ⟨tb, to + i * 4 + 2, none⟩) hl).trans Q.out.2.2.1; have p3 := (bb.cell (p := ⟨tb, to + i * 4 + 3, none⟩) hl).trans Q.out.2.2.2; have k := Tk.of_cells (new_kept b1); have z0 := k.c0; have z1 := k.c1; have z2 := k.c2; have z3 := k.c3; obtain ⟨y0, y1, y2, y3⟩ := k.frz; have K := hide' (And.intro k bb); clear k bb b1 r1)
    generalize I.l.length = n at *
    have n1 : ¬ b = w.heap.size := by omega
    have n2 : ¬ tb = w.heap.size := by omega
    go_region_with (fail)
    all_goals try go_wp2
    all_goals
     refine bodyPost_ret_by (results44 rfl _ _ w.heap.size _ _ _ _ rfl (K.out.1.set _ _ _ _).drew) rfl ?_
     exact ⟨rfl, K.out.2.trans (below4 _ (Nat.le_refl _) _ _ _ _).drew⟩
  · have e1 : Hid (((i : Int) == (I.l.length : Int)) = true) := by show _ = _; simp; omega
    have e2 : I.at i = I.e := R.at_end hi
    rw [e2]
    have HA := hide' fun w (h : Rdr I ao cap b i w) => atEnd_any h
    rw [e1.out] at HA
    obtain ⟨e3, e4⟩ := h.ok.ending
    rw [e3, e4]
    clear h e1 e2 e3 e4
    have n1 : ¬ b = w.heap.size := by omega
    go_enter Tryz.func106, Tryz.ntmps106
    go_wp2_with (go_at_call 58; refine (HA.out _ (H.out.alloc _)).mono ?_; rintro e w1 ⟨rfl, b1⟩; have r1 := (H.out.alloc _).below b1; have d1 := r1.c1; have d2 := r1.c2; have d3 := r1.c3; have d4 := r1.c4; have k := Tk.of_cells (new_kept b1); have z0 := k.c0; have z1 := k.c1; have z2 := k.c2; have z3 := k.c3; obtain ⟨y0, y1, y2, y3⟩ := k.frz; have K := hide' (And.intro k (old_kept b1)); clear k b1 r1)
    refine bodyPost_ret_by (results44 rfl _ _ w.heap.size _ _ _ _ rfl (K.out.1.set _ _ _ _)) rfl ?_
    exact ⟨rfl, K.out.2.trans (below4 _ (Nat.le_refl _) _ _ _ _)⟩
end Go.Proofs.YtppcofopnelgjaaGreatDoor
