import Derived.Test.YtoejcpfodbegeaaStw
set_option linter.unusedVariables false
set_option linter.unusedSimpArgs false
namespace Go.Proofs.Ytoejcpfodbegeaa
open Go.RowKit
namespace F
open M
variable {U V U' D R : Nat → Prop} {B B' x y n m : Nat} {ws ws' : List Int} {tr tr' : List Ac} {bad bad' : Nat} {w w' w1 w2 : World}
theorem row_lower {e size k : Nat} {v : Value} {xs : List Value} (h : w.ownsRow B e size v k xs) (hB : B' ≤ B) : w.ownsRow B' e size v k xs := by
  refine ⟨h.1, ?_⟩
  rcases h.2 with q | ⟨g, cap, cur, hv, hb, rest⟩
  · exact .inl q
  · exact .inr ⟨g, cap, cur, hv, Nat.le_trans hB hb, rest⟩
theorem mem_lower (h : Mem D B x ws tr bad w) (hB : B' ≤ B) : Mem D B' x ws tr bad w := by
  obtain ⟨hb, g, ao, cap, hm, hd⟩ := h
  exact ⟨hb, g, ao, cap, ⟨hm.hx, hm.hg, row_lower hm.row hB, Nat.le_trans hB hm.lx, Nat.le_trans hB hm.lg, hm.pos, hm.few, hm.nn⟩, hd⟩
theorem rem_lower (h : Rem D B x ws m tr bad w) (hB : B' ≤ B) : Rem D B' x ws m tr bad w := by
  obtain ⟨hb, few, lo, lc, lg, eo, ec, hm, hr, hl, hd⟩ := h
  exact ⟨hb, few, lo, lc, lg, eo, ec, ⟨hm.hx, row_lower hm.log hB, row_lower hm.row hB, Nat.le_trans hB hm.lx⟩, hr, hl, hd⟩
/-- two pairs, side by side -/
structure Q2 (w0 : World) (n k k2 x y x2 y2 : Nat) (w : World) : Prop where
  ex : ∃ U V ws tr bad ws2 tr2 bad2, Pr U w0.heap.size x y ws k tr bad w ∧ Pr V w0.heap.size x2 y2 ws2 k2 tr2 bad2 w ∧ (∀ j, U j → ¬ V j) ∧ ws.length = n ∧ ws2.length = n ∧ tr.length ≤ k ∧ tr2.length ≤ k2 ∧ Below w0.heap.size w0 w
theorem pto_side (hU : Pr U B x y ws m tr bad w) {x2 y2 : Nat} {ws2 : List Int} {m2 : Nat} {tr2 : List Ac} {bad2 : Nat} (hV : Pr V B x2 y2 ws2 m2 tr2 bad2 w) (hd : ∀ j, U j → ¬ V j) (t : PTo U B x y ws' n tr' bad' w w') :
    ∃ U', Pr U' B x y ws' n tr' bad' w' ∧ Pr V B x2 y2 ws2 m2 tr2 bad2 w' ∧ (∀ j, U' j → ¬ V j) ∧ ∀ b0, b0 ≤ B → ∀ w0, Below b0 w0 w → Below b0 w0 w' := by
  obtain ⟨U', h', t', s'⟩ := t
  refine ⟨U', h', hV.kept t' (fun j hj q => hd j q hj), fun j hj q => ?_, fun b0 hb w0 bl => bl.trans (t'.below (fun j hj => Nat.le_trans hb (hU.low hj).1) (Nat.le_trans hb hU.base))⟩
  rcases s' j hj with p | p
  · exact hd j p q
  · have := (hV.low q).2; omega
/-- a step on the first pair -/
theorem Q2.one {w0 : World} {k k2 x2 y2 : Nat} (s : St) (hs : s.ok) (hk : k < 1999999999998) (h : Q2 w0 n k k2 x y x2 y2 w) : Calls Try.prog 15 #[.pointer (some ⟨x, 0, none⟩), .pointer (some ⟨y, 0, none⟩), .agg s.arr] w fun e w' => e = .returned (.bool true) ∧ Q2 w0 n (k + 1) k2 x y x2 y2 w' := by
  obtain ⟨U, V, ws, tr, bad, ws2, tr2, bad2, h1, h2, hd, l1, l2, t1, t2, bl⟩ := h.ex
  refine (step_two s hs h1 (by omega) (by omega)).mono ?_
  rintro e w' ⟨he, ws', tr', bad', q1, q2, q3⟩
  obtain ⟨U', g1, g2, g3, g4⟩ := pto_side h1 h2 hd q3
  exact ⟨he, ⟨U', V, ws', tr', bad', ws2, tr2, bad2, g1, g2, g3, q1.trans l1, l2, by omega, by omega, g4 _ (Nat.le_refl _) _ bl⟩⟩
theorem Q2.swap {w0 : World} {k k2 x2 y2 : Nat} (h : Q2 w0 n k k2 x y x2 y2 w) : Q2 w0 n k2 k x2 y2 x y w := by
  obtain ⟨U, V, ws, tr, bad, ws2, tr2, bad2, h1, h2, hd, l1, l2, t1, t2, bl⟩ := h.ex
  exact ⟨V, U, ws2, tr2, bad2, ws, tr, bad, h2, h1, fun j hj q => hd j q hj, l2, l1, t2, t1, bl⟩
theorem Q2.two {w0 : World} {k k2 x2 y2 : Nat} (s : St) (hs : s.ok) (hk : k2 < 1999999999998) (h : Q2 w0 n k k2 x y x2 y2 w) : Calls Try.prog 15 #[.pointer (some ⟨x2, 0, none⟩), .pointer (some ⟨y2, 0, none⟩), .agg s.arr] w fun e w' => e = .returned (.bool true) ∧ Q2 w0 n k (k2 + 1) x y x2 y2 w' :=
  (h.swap.one s hs hk).mono fun e w' ⟨he, hq⟩ => ⟨he, hq.swap⟩
theorem Q2.bel {w0 : World} {k k2 x2 y2 : Nat} (h : Q2 w0 n k k2 x y x2 y2 w) : Below w0.heap.size w0 w := by
  obtain ⟨U, V, ws, tr, bad, ws2, tr2, bad2, h1, h2, hd, l1, l2, t1, t2, bl⟩ := h.ex
  exact bl
/-- the four that were made -/
theorem Q2.made {w0 w3 w4 : World} {x2 y2 : Nat} {D1 R1 D2 R2 : Nat → Prop} (h1 : Mem D1 w0.heap.size x (List.replicate n 0) [] 0 w1) (b1 : Below w0.heap.size w0 w1) (h2 : Rem R1 w1.heap.size y (List.replicate n 0) 0 [] 0 w2) (b2 : Below w1.heap.size w1 w2)
    (h3 : Mem D2 w2.heap.size x2 (List.replicate n 0) [] 0 w3) (b3 : Below w2.heap.size w2 w3) (h4 : Rem R2 w3.heap.size y2 (List.replicate n 0) 0 [] 0 w4) (b4 : Below w3.heap.size w3 w4) : Q2 w0 n 0 0 x y x2 y2 w4 := by
  have s1 := b1.size
  have s2 := b2.size
  have s3 := b3.size
  have s4 := b4.size
  have m1 := ((h1.below b2).below b3).below b4
  have m2 := (h2.below b3).below b4
  have m3 := h3.below b4
  refine ⟨fun j => D1 j ∨ R1 j, fun j => D2 j ∨ R2 j, _, _, _, _, _, _, ⟨D1, R1, m1, rem_lower m2 (by omega), fun j hj q => ?_, fun j => Iff.rfl⟩, ⟨D2, R2, mem_lower m3 (by omega), rem_lower h4 (by omega), fun j hj q => ?_, fun j => Iff.rfl⟩, fun j hj q => ?_, by simp, by simp, Nat.le_refl _, Nat.le_refl _, ?_⟩
  · have := (h1.lo hj).2; have := (h2.low q).1; omega
  · have := (h3.lo hj).2; have := (h4.low q).1; omega
  · have e1 : j < w2.heap.size := by
      rcases hj with p | p
      · have := (h1.lo p).2; omega
      · exact (h2.low p).2
    rcases q with p | p
    · have := (h3.lo p).1; omega
    · have := (h4.low p).1; omega
  · exact ((b1.trans (b2.mono s1)).trans (b3.mono (by omega))).trans (b4.mono (by omega))
/-- all four, with the row of the trace that was kept and the row of all the words -/
def All4 (D1 R1 D2 R2 : Nat → Prop) (B x y x2 y2 : Nat) (wm : List Int) (tm : List Ac) (bm : Nat) (ws : List Int) (m : Nat) (tr : List Ac) (bad : Nat) (ws2 : List Int) (m2 : Nat) (tr2 : List Ac) (bad2 : Nat) (w : World) : Prop :=
  Mem D1 B x wm tm bm w ∧ Rem R1 B y ws m tr bad w ∧ Mem D2 B x2 ws2 tr2 bad2 w ∧ Rem R2 B y2 ws2 m2 tr2 bad2 w
section
variable {D1 R1 D2 R2 : Nat → Prop} {x2 y2 bm m2 bad2 : Nat} {wm ws2 : List Int} {tm tr2 : List Ac}
theorem All4.kept {S : Nat → Prop} (h : All4 D1 R1 D2 R2 B x y x2 y2 wm tm bm ws m tr bad ws2 m2 tr2 bad2 w) (t : Turn S w w') (hn : ∀ j, j < w.heap.size → S j → ¬ (D1 j ∨ R1 j ∨ D2 j ∨ R2 j)) : All4 D1 R1 D2 R2 B x y x2 y2 wm tm bm ws m tr bad ws2 m2 tr2 bad2 w' := by
  obtain ⟨h1, h2, h3, h4⟩ := h
  exact ⟨h1.kept t (fun j hj q => hn j (h1.lo hj).2 q (.inl hj)), h2.kept t (fun j hj q => hn j (h2.low hj).2 q (.inr (.inl hj))), h3.kept t (fun j hj q => hn j (h3.lo hj).2 q (.inr (.inr (.inl hj)))), h4.kept t (fun j hj q => hn j (h4.low hj).2 q (.inr (.inr (.inr hj))))⟩
theorem All4.below (h : All4 D1 R1 D2 R2 B x y x2 y2 wm tm bm ws m tr bad ws2 m2 tr2 bad2 w) (t : Below w.heap.size w w') : All4 D1 R1 D2 R2 B x y x2 y2 wm tm bm ws m tr bad ws2 m2 tr2 bad2 w' := h.kept (turn_below (S := fun _ => False) t) (fun _ _ q => q.elim)
theorem All4.low (h : All4 D1 R1 D2 R2 B x y x2 y2 wm tm bm ws m tr bad ws2 m2 tr2 bad2 w) {j : Nat} (hj : D1 j ∨ R1 j ∨ D2 j ∨ R2 j) : B ≤ j ∧ j < w.heap.size := by
  obtain ⟨h1, h2, h3, h4⟩ := h
  rcases hj with q | q | q | q
  · exact h1.lo q
  · exact h2.low q
  · exact h3.lo q
  · exact h4.low q
theorem All4.to {wm' : List Int} {tm' : List Ac} {bm' : Nat} (h : All4 D1 R1 D2 R2 B x y x2 y2 wm tm bm ws m tr bad ws2 m2 tr2 bad2 w) (hd : ∀ j, D1 j → ¬ (R1 j ∨ D2 j ∨ R2 j)) (t : To D1 B x wm' tm' bm' w w') : ∃ D1', All4 D1' R1 D2 R2 B x y x2 y2 wm' tm' bm' ws m tr bad ws2 m2 tr2 bad2 w' ∧ Turn D1 w w' := by
  obtain ⟨h1, h2, h3, h4⟩ := h
  obtain ⟨D', h', t', s'⟩ := t
  exact ⟨D', ⟨h', h2.kept t' (fun j hj q => hd j q (.inl hj)), h3.kept t' (fun j hj q => hd j q (.inr (.inl hj))), h4.kept t' (fun j hj q => hd j q (.inr (.inr hj)))⟩, t'⟩
end
/-- a row stays where another row's block turns, if it lies ahead -/
theorem row_past {S : Nat → Prop} {e size k : Nat} {v : Value} {xs : List Value} (h : w.ownsRow B e size v k xs) (t : Turn S w w') (hs : ∀ j, S j → ¬ v.ownBlock = some j) : w'.ownsRow B e size v k xs := t.row h (fun j hj q => hs j q hj)
end F
end Go.Proofs.Ytoejcpfodbegeaa
