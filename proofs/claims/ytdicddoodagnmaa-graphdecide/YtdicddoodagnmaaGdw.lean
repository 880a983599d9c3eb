import Derived.Test.YtdicddoodagnmaaGdr
set_option linter.unusedVariables false
set_option linter.unusedSimpArgs false
namespace Go.Proofs.Ytdicddoodagnmaa
open Go.RowKit
namespace D
theorem bel_drew (V : World) : Below V.heap.size V V.drew := ⟨rfl, rfl, rfl, Nat.le_refl _, fun _ _ => rfl⟩
theorem bel_drewN (V : World) (n : Nat) : Below V.heap.size V (V.drewN n) := ⟨rfl, rfl, rfl, Nat.le_refl _, fun _ _ => rfl⟩
set_option maxHeartbeats 2000000 in
set_option maxRecDepth 100000 in
theorem graphDecide_walk (G : Gf) (ts to ta : ByteArray) (w : World) (h : G.In w) :
    Calls Try.prog 6 #[.agg #[.slice G.a.1 G.a.2.2.length G.a.2.1, .slice G.s.1 G.s.2.2.length G.s.2.1, .slice G.o.1 G.o.2.2.length G.o.2.1, .slice G.f.1 G.f.2.2.length G.f.2.1, .slice G.n.1 G.n.2.2.length G.n.2.1, .slice G.m.1 G.m.2.2.length G.m.2.1], .agg #[.string ts, .string to, .string ta]] w fun e w' => e = .returned (.bool true) ∧ Below w.heap.size w w' := by
  have H := hide' h
  clear h
  go_enter Try.func6, Try.ntmps6
  go_wp2_with fail
  have B0 := hide' (Bx.mk2 G ts to ta w)
  obtain ⟨V, hV⟩ : ∃ V, V = ((w.alloc (.cells #[.slice G.a.1 G.a.2.2.length G.a.2.1, .slice G.s.1 G.s.2.2.length G.s.2.1, .slice G.o.1 G.o.2.2.length G.o.2.1, .slice G.f.1 G.f.2.2.length G.f.2.1, .slice G.n.1 G.n.2.2.length G.n.2.1, .slice G.m.1 G.m.2.2.length G.m.2.1] 28)).alloc (.cells #[.string ts, .string to, .string ta] 32)) := ⟨_, rfl⟩
  rw [← hV] at B0
  rw [← hV]
  clear hV
  obtain ⟨q2, hq2⟩ : ∃ q2, q2 = w.heap.size := ⟨_, rfl⟩
  generalize hq3 : w.heap.size + 1 = q3 at *
  rw [← hq2]
  rw [← hq2] at B0
  clear hq2 hq3
  have C11 : Hid (∀ W, Bx G ts to ta q2 q3 w W → Calls Try.prog 11 #[.agg #[.slice G.a.1 G.a.2.2.length G.a.2.1, .slice G.s.1 G.s.2.2.length G.s.2.1, .slice G.o.1 G.o.2.2.length G.o.2.1, .slice G.f.1 G.f.2.2.length G.f.2.1, .slice G.n.1 G.n.2.2.length G.n.2.1, .slice G.m.1 G.m.2.2.length G.m.2.1], .agg #[.string ts, .string to, .string ta]] W fun e w' => e = .returned (.bool (G.dec ts to ta)) ∧ Below W.heap.size W w') := fun W b => decide_any G ts to ta W (H.out.below b.b)
  have C21 : Hid (∀ W, Bx G ts to ta q2 q3 w W → Calls Try.prog 21 #[.agg #[.slice G.a.1 G.a.2.2.length G.a.2.1, .slice G.s.1 G.s.2.2.length G.s.2.1, .slice G.o.1 G.o.2.2.length G.o.2.1, .slice G.f.1 G.f.2.2.length G.f.2.1, .slice G.n.1 G.n.2.2.length G.n.2.1, .slice G.m.1 G.m.2.2.length G.m.2.1], .agg #[.string ts, .string to, .string ta]] W fun e w' => e = .returned (.bool (G.dec ts to ta)) ∧ Below W.heap.size W w') := fun W b => rdecide_any G ts to ta W (H.out.below b.b)
  have KC : Hid (∀ W, Bx G ts to ta q2 q3 w W → W.cell? ⟨q2, 0, none⟩ = some (.slice G.a.1 G.a.2.2.length G.a.2.1) ∧ W.cell? ⟨q2, 1, none⟩ = some (.slice G.s.1 G.s.2.2.length G.s.2.1) ∧ W.cell? ⟨q2, 2, none⟩ = some (.slice G.o.1 G.o.2.2.length G.o.2.1) ∧ W.cell? ⟨q2, 3, none⟩ = some (.slice G.f.1 G.f.2.2.length G.f.2.1) ∧ W.cell? ⟨q2, 4, none⟩ = some (.slice G.n.1 G.n.2.2.length G.n.2.1) ∧ W.cell? ⟨q2, 5, none⟩ = some (.slice G.m.1 G.m.2.2.length G.m.2.1) ∧ W.cell? ⟨q3, 0, none⟩ = some (.string ts) ∧ W.cell? ⟨q3, 1, none⟩ = some (.string to) ∧ W.cell? ⟨q3, 2, none⟩ = some (.string ta)) := fun W b => b.cs
  have hbb : (G.dec ts to ta == G.dec ts to ta) = true := by simp
  have D0 := hide' (B0.out.below (bel_drew V))
  generalize G.dec ts to ta = gd at *
  go_region_held3 (fun W => W.cell? ⟨q2, 0, none⟩ = some (.slice G.a.1 G.a.2.2.length G.a.2.1) ∧ W.cell? ⟨q2, 1, none⟩ = some (.slice G.s.1 G.s.2.2.length G.s.2.1) ∧ W.cell? ⟨q2, 2, none⟩ = some (.slice G.o.1 G.o.2.2.length G.o.2.1) ∧ W.cell? ⟨q2, 3, none⟩ = some (.slice G.f.1 G.f.2.2.length G.f.2.1) ∧ W.cell? ⟨q2, 4, none⟩ = some (.slice G.n.1 G.n.2.2.length G.n.2.1) ∧ W.cell? ⟨q2, 5, none⟩ = some (.slice G.m.1 G.m.2.2.length G.m.2.1) ∧ W.cell? ⟨q3, 0, none⟩ = some (.string ts) ∧ W.cell? ⟨q3, 1, none⟩ = some (.string to) ∧ W.cell? ⟨q3, 2, none⟩ = some (.string ta)) (first | with_reducible exact KC.out _ B0.out | with_reducible exact KC.out _ D0.out | with_reducible exact KC.out _ B1.out | with_reducible exact KC.out _ B2.out | go_keep) (first | (go_at_call 11; refine (C11.out _ D0.out).mono ?_; rintro e w1 ⟨rfl, b1⟩; have B1 := hide' (D0.out.below b1); clear b1) | (go_at_call 21; refine (C21.out _ B1.out).mono ?_; rintro e w2 ⟨rfl, b2⟩; have B2 := hide' (B1.out.below b2); clear b2))
  rename_i hHeld
  clear hHeld
  go_wp2_with fail
  go_ret
  exact ⟨rfl, B2.out.b⟩
end D
end Go.Proofs.Ytdicddoodagnmaa
