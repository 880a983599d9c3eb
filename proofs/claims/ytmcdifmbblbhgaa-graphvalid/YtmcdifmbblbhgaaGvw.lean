import Derived.Test.YtmcdifmbblbhgaaRvw
import Derived.Deep.RegionHeld3
set_option linter.unusedVariables false
set_option linter.unusedSimpArgs false
namespace Go.Proofs.Ytmcdifmbblbhgaa
open Go.RowKit Go.Maps
namespace V
open U D
set_option maxHeartbeats 8000000 in
set_option maxRecDepth 100000 in
theorem graphValid_walk (G : Gf) (w : World) (h : G.In w) (nf : G.f.1 = none → G.f.2.1 = 0) (nn : G.n.1 = none → G.n.2.1 = 0) (ka : ∀ z ∈ G.a.2.2, S.okk z) (ks : ∀ z ∈ G.s.2.2, S.okk z) (ko : ∀ z ∈ G.o.2.2, S.okk z) :
    Calls Try.prog 5 #[.agg #[.slice G.a.1 G.a.2.2.length G.a.2.1, .slice G.s.1 G.s.2.2.length G.s.2.1, .slice G.o.1 G.o.2.2.length G.o.2.1, .slice G.f.1 G.f.2.2.length G.f.2.1, .slice G.n.1 G.n.2.2.length G.n.2.1, .slice G.m.1 G.m.2.2.length G.m.2.1]] w fun e w' => e = .returned (.bool true) ∧ Below w.heap.size w w' := by
  have H := hide' h
  have HK := hide' (And.intro nf (And.intro nn (And.intro ka (And.intro ks ko))))
  clear h nf nn ka ks ko
  go_enter Try.func5, Try.ntmps5
  go_wp2_with fail
  have B0 : Hid (Bg G w.heap.size w (w.alloc (.cells #[.slice G.a.1 G.a.2.2.length G.a.2.1, .slice G.s.1 G.s.2.2.length G.s.2.1, .slice G.o.1 G.o.2.2.length G.o.2.1, .slice G.f.1 G.f.2.2.length G.f.2.1, .slice G.n.1 G.n.2.2.length G.n.2.1, .slice G.m.1 G.m.2.2.length G.m.2.1] 28))) := ⟨(Below.refl _ _).alloc (Nat.le_refl _) _, heap_alloc_new _ _⟩
  generalize w.alloc (.cells #[.slice G.a.1 G.a.2.2.length G.a.2.1, .slice G.s.1 G.s.2.2.length G.s.2.1, .slice G.o.1 G.o.2.2.length G.o.2.1, .slice G.f.1 G.f.2.2.length G.f.2.1, .slice G.n.1 G.n.2.2.length G.n.2.1, .slice G.m.1 G.m.2.2.length G.m.2.1] 28) = V at *
  obtain ⟨q1, hq1⟩ : ∃ q1, q1 = w.heap.size := ⟨_, rfl⟩
  rw [← hq1] at B0
  rw [← hq1]
  clear hq1
  have C10 : Hid (∀ W, Bg G q1 w W → Calls Try.prog 10 #[.agg #[.slice G.a.1 G.a.2.2.length G.a.2.1, .slice G.s.1 G.s.2.2.length G.s.2.1, .slice G.o.1 G.o.2.2.length G.o.2.1, .slice G.f.1 G.f.2.2.length G.f.2.1, .slice G.n.1 G.n.2.2.length G.n.2.1, .slice G.m.1 G.m.2.2.length G.m.2.1]] W fun e w' => e = .returned (.bool (vld G)) ∧ Below W.heap.size W w') := fun W b => valid_any G W (H.out.below b.b) HK.out.1 HK.out.2.1 HK.out.2.2.1 HK.out.2.2.2.1 HK.out.2.2.2.2
  have C20 : Hid (∀ W, Bg G q1 w W → Calls Try.prog 20 #[.agg #[.slice G.a.1 G.a.2.2.length G.a.2.1, .slice G.s.1 G.s.2.2.length G.s.2.1, .slice G.o.1 G.o.2.2.length G.o.2.1, .slice G.f.1 G.f.2.2.length G.f.2.1, .slice G.n.1 G.n.2.2.length G.n.2.1, .slice G.m.1 G.m.2.2.length G.m.2.1]] W fun e w' => e = .returned (.bool (vld G)) ∧ Below W.heap.size W w') := fun W b => rvalid_any G W (H.out.below b.b)
  have KC : Hid (∀ W, Bg G q1 w W → W.cell? ⟨q1, 0, none⟩ = some (.slice G.a.1 G.a.2.2.length G.a.2.1) ∧ W.cell? ⟨q1, 1, none⟩ = some (.slice G.s.1 G.s.2.2.length G.s.2.1) ∧ W.cell? ⟨q1, 2, none⟩ = some (.slice G.o.1 G.o.2.2.length G.o.2.1) ∧ W.cell? ⟨q1, 3, none⟩ = some (.slice G.f.1 G.f.2.2.length G.f.2.1) ∧ W.cell? ⟨q1, 4, none⟩ = some (.slice G.n.1 G.n.2.2.length G.n.2.1) ∧ W.cell? ⟨q1, 5, none⟩ = some (.slice G.m.1 G.m.2.2.length G.m.2.1)) := fun W b => ⟨by rw [Lib.cell_of_heap b.h]; rfl, by rw [Lib.cell_of_heap b.h]; rfl, by rw [Lib.cell_of_heap b.h]; rfl, by rw [Lib.cell_of_heap b.h]; rfl, by rw [Lib.cell_of_heap b.h]; rfl, by rw [Lib.cell_of_heap b.h]; rfl⟩
  have hbb : (vld G == vld G) = true := by simp
  have D0 := hide' (B0.out.below (⟨rfl, rfl, rfl, Nat.le_refl _, fun _ _ => rfl⟩ : Below V.heap.size V V.drew))
  generalize vld G = gd at *
  go_region_held3 (fun W => W.cell? ⟨q1, 0, none⟩ = some (.slice G.a.1 G.a.2.2.length G.a.2.1) ∧ W.cell? ⟨q1, 1, none⟩ = some (.slice G.s.1 G.s.2.2.length G.s.2.1) ∧ W.cell? ⟨q1, 2, none⟩ = some (.slice G.o.1 G.o.2.2.length G.o.2.1) ∧ W.cell? ⟨q1, 3, none⟩ = some (.slice G.f.1 G.f.2.2.length G.f.2.1) ∧ W.cell? ⟨q1, 4, none⟩ = some (.slice G.n.1 G.n.2.2.length G.n.2.1) ∧ W.cell? ⟨q1, 5, none⟩ = some (.slice G.m.1 G.m.2.2.length G.m.2.1)) (first | with_reducible exact KC.out _ B0.out | with_reducible exact KC.out _ D0.out | with_reducible exact KC.out _ B1.out | with_reducible exact KC.out _ B2.out | go_keep) (first | (go_at_call 10; refine (C10.out _ D0.out).mono ?_; rintro e w1 ⟨rfl, b1⟩; have B1 := hide' (D0.out.below b1); clear b1) | (go_at_call 20; refine (C20.out _ B1.out).mono ?_; rintro e w2 ⟨rfl, b2⟩; have B2 := hide' (B1.out.below b2); clear b2))
  rename_i hHeld
  clear hHeld
  go_wp2_with fail
  go_ret
  exact ⟨rfl, B2.out.b⟩
end V
end Go.Proofs.Ytmcdifmbblbhgaa
