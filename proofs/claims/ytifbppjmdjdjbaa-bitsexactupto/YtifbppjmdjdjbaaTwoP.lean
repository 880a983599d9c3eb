import Derived.Test.YtifbppjmdjdjbaaOneP
import Derived.Test.YtifbppjmdjdjbaaRef6
set_option linter.unusedVariables false
set_option linter.unusedSimpArgs false
namespace Go.Proofs.Ytifbppjmdjdjbaa
open Go.RowKit
theorem Rs.ne2 {B0 x : Nat} {ao : Option Addr} {cap R : Nat} {p : Nat → Bool} {B2 y : Nat} {ao2 : Option Addr} {cap2 R2 : Nat} {q : Nat → Bool} {w : World} (a : Rs B0 x ao cap R p w) (b : Rs B2 y ao2 cap2 R2 q w) : ¬ Rrow ao y := by
  rintro ⟨c, hc, e⟩
  rcases a.row.2 with ⟨hv, h0⟩ | ⟨g2, cap', cur, hv, hb, hg, _⟩
  · rw [hc] at hv; cases hv
  · rw [hc] at hv
    simp only [Value.slice.injEq, Option.some.injEq] at hv
    obtain ⟨rfl, _⟩ := hv
    have e' : y = g2 := e
    have h1 := b.hx; rw [e', hg] at h1; simp at h1
set_option maxHeartbeats 2000000 in
set_option maxRecDepth 100000 in
theorem two_join_nil (x g R B0 y : Nat) (ao : Option Addr) (cap : Nat) (p : Nat → Bool) (s o n : Int) (w : World) (h : Pr x g R B0 y ao cap p w) :
    Calls Try.prog 13 #[.agg #[.pointer (some ⟨x, 0, none⟩), .pointer (some ⟨y, 0, none⟩)], .agg #[.pointer none, .pointer none], .agg #[.int .i64 5, .int .i64 s, .int .i64 o, .int .i64 n]] w fun e w' => e = .returned (.bool true) ∧ ∃ p', Pr x g R B0 y ao cap p' w' ∧ Turn (Two g ao) w w' := by
  have hP := h.kept ((((Turn.refl (fun _ => False) w).alloc (.cells #[.pointer (some ⟨x, 0, none⟩), .pointer (some ⟨y, 0, none⟩)] 31)).alloc (.cells #[.pointer none, .pointer none] 31)).alloc (.cells #[.int .i64 5, .int .i64 s, .int .i64 o, .int .i64 n] 33)) (fun q => q) (fun q => q) (fun q => q) (fun _ _ q => q)
  have tW : Turn (Two g ao) w (((w.alloc (.cells #[.pointer (some ⟨x, 0, none⟩), .pointer (some ⟨y, 0, none⟩)] 31)).alloc (.cells #[.pointer none, .pointer none] 31)).alloc (.cells #[.int .i64 5, .int .i64 s, .int .i64 o, .int .i64 n] 33)) := (((Turn.refl _ w).alloc _).alloc _).alloc _
  have hgl := h.b.ltg
  have hap := h.r.apart
  obtain ⟨ne1, ne2, ne3⟩ := h.b.rs_ne h.r
  have Ha := hide' (fun w h => join_nil x g R p w h)
  have Hr := hide' (fun w (h : Rs B0 y ao cap R p w) => rjoin_nil h)
  clear h
  generalize B.laid bOr R p (fun _ => false) = P at *
  generalize B.chg p P (nw R) = bb at *
  have ebb : (bb == bb) = true := by simp
  have c00 : (((w.alloc (.cells #[.pointer (some ⟨x, 0, none⟩), .pointer (some ⟨y, 0, none⟩)] 31)).alloc (.cells #[.pointer none, .pointer none] 31)).alloc (.cells #[.int .i64 5, .int .i64 s, .int .i64 o, .int .i64 n] 33)).cell? ⟨w.heap.size, 0, none⟩ = some (.pointer (some ⟨x, 0, none⟩)) := by go_simp
  have c01 : (((w.alloc (.cells #[.pointer (some ⟨x, 0, none⟩), .pointer (some ⟨y, 0, none⟩)] 31)).alloc (.cells #[.pointer none, .pointer none] 31)).alloc (.cells #[.int .i64 5, .int .i64 s, .int .i64 o, .int .i64 n] 33)).cell? ⟨w.heap.size, 1, none⟩ = some (.pointer (some ⟨y, 0, none⟩)) := by go_simp
  have c10 : (((w.alloc (.cells #[.pointer (some ⟨x, 0, none⟩), .pointer (some ⟨y, 0, none⟩)] 31)).alloc (.cells #[.pointer none, .pointer none] 31)).alloc (.cells #[.int .i64 5, .int .i64 s, .int .i64 o, .int .i64 n] 33)).cell? ⟨w.heap.size + 1, 0, none⟩ = some (.pointer none) := by go_simp
  have c11 : (((w.alloc (.cells #[.pointer (some ⟨x, 0, none⟩), .pointer (some ⟨y, 0, none⟩)] 31)).alloc (.cells #[.pointer none, .pointer none] 31)).alloc (.cells #[.int .i64 5, .int .i64 s, .int .i64 o, .int .i64 n] 33)).cell? ⟨w.heap.size + 1, 1, none⟩ = some (.pointer none) := by go_simp
  have hsz : w.heap.size + 1 < (((w.alloc (.cells #[.pointer (some ⟨x, 0, none⟩), .pointer (some ⟨y, 0, none⟩)] 31)).alloc (.cells #[.pointer none, .pointer none] 31)).alloc (.cells #[.int .i64 5, .int .i64 s, .int .i64 o, .int .i64 n] 33)).heap.size := by simp
  go_enter Try.func13, Try.ntmps13
  go_wp2
  generalize (((w.alloc (.cells #[.pointer (some ⟨x, 0, none⟩), .pointer (some ⟨y, 0, none⟩)] 31)).alloc (.cells #[.pointer none, .pointer none] 31)).alloc (.cells #[.int .i64 5, .int .i64 s, .int .i64 o, .int .i64 n] 33)) = W at *
  generalize w.heap.size = b at *
  have hP1 := hP.drewN 1
  have Hg : Hid (∀ j, Rrow ao j → ¬ j = g) := fun j hj e => ne2 (e ▸ hj)
  go_region_held3 (fun w' => w'.cell? ⟨b, 0, none⟩ = some (.pointer (some ⟨x, 0, none⟩)) ∧ w'.cell? ⟨b, 1, none⟩ = some (.pointer (some ⟨y, 0, none⟩)) ∧ w'.cell? ⟨b + 1, 0, none⟩ = some (.pointer none) ∧ w'.cell? ⟨b + 1, 1, none⟩ = some (.pointer none)) (first | go_keep | exact ⟨m0, m1, m2, m3⟩ | exact ⟨k0, k1, k2, k3⟩) ((first | (go_at_call 43; refine (Hr.out w1 hR1).mono ?_; rintro e w2 ⟨rfl, hR2, t2⟩; have hB2 := hB1.kept t2 ne3 ne2; have m0 := (t2.cell (p := ⟨b, 0, none⟩) (show b < w1.heap.size by omega) (fun q => Nat.lt_irrefl _ (hap b q).2.2)).trans k0; have m1 := (t2.cell (p := ⟨b, 1, none⟩) (show b < w1.heap.size by omega) (fun q => Nat.lt_irrefl _ (hap b q).2.2)).trans k1; have m2 := (t2.cell (p := ⟨b + 1, 0, none⟩) (show b + 1 < w1.heap.size by omega) (fun q => absurd (hap (b + 1) q).2.2 (by omega))).trans k2; have m3 := (t2.cell (p := ⟨b + 1, 1, none⟩) (show b + 1 < w1.heap.size by omega) (fun q => absurd (hap (b + 1) q).2.2 (by omega))).trans k3) | (go_at_call 31; refine (Ha.out W.drew hP1.b).mono ?_; rintro e w1 ⟨rfl, hB1, t1⟩; have hs1 : W.heap.size ≤ w1.heap.size := t1.size; have hR1 := hP1.r.kept t1 (fun q => ne1 q.symm) Hg.out; have k0 := (t1.cell (p := ⟨b, 0, none⟩) (show b < W.heap.size by omega) (show ¬ b = g by omega)).trans c00; have k1 := (t1.cell (p := ⟨b, 1, none⟩) (show b < W.heap.size by omega) (show ¬ b = g by omega)).trans c01; have k2 := (t1.cell (p := ⟨b + 1, 0, none⟩) (show b + 1 < W.heap.size by omega) (show ¬ b + 1 = g by omega)).trans c10; have k3 := (t1.cell (p := ⟨b + 1, 1, none⟩) (show b + 1 < W.heap.size by omega) (show ¬ b + 1 = g by omega)).trans c11)))
  go_wp2
  go_ret
  exact ⟨rfl, _, ⟨hB2, hR2⟩, (tW.trans (((Turn.refl (Two g ao) W).drew).trans (t1.mono (fun _ _ q => .inl q)))).trans (t2.mono (fun _ _ q => .inr q))⟩
set_option maxHeartbeats 2000000 in
set_option maxRecDepth 100000 in
theorem two_join_self (x g R B0 y : Nat) (ao : Option Addr) (cap : Nat) (p : Nat → Bool) (s o n : Int) (w : World) (h : Pr x g R B0 y ao cap p w) :
    Calls Try.prog 13 #[.agg #[.pointer (some ⟨x, 0, none⟩), .pointer (some ⟨y, 0, none⟩)], .agg #[.pointer (some ⟨x, 0, none⟩), .pointer (some ⟨y, 0, none⟩)], .agg #[.int .i64 5, .int .i64 s, .int .i64 o, .int .i64 n]] w fun e w' => e = .returned (.bool true) ∧ ∃ p', Pr x g R B0 y ao cap p' w' ∧ Turn (Two g ao) w w' := by
  have hP := h.kept ((((Turn.refl (fun _ => False) w).alloc (.cells #[.pointer (some ⟨x, 0, none⟩), .pointer (some ⟨y, 0, none⟩)] 31)).alloc (.cells #[.pointer (some ⟨x, 0, none⟩), .pointer (some ⟨y, 0, none⟩)] 31)).alloc (.cells #[.int .i64 5, .int .i64 s, .int .i64 o, .int .i64 n] 33)) (fun q => q) (fun q => q) (fun q => q) (fun _ _ q => q)
  have tW : Turn (Two g ao) w (((w.alloc (.cells #[.pointer (some ⟨x, 0, none⟩), .pointer (some ⟨y, 0, none⟩)] 31)).alloc (.cells #[.pointer (some ⟨x, 0, none⟩), .pointer (some ⟨y, 0, none⟩)] 31)).alloc (.cells #[.int .i64 5, .int .i64 s, .int .i64 o, .int .i64 n] 33)) := (((Turn.refl _ w).alloc _).alloc _).alloc _
  have hgl := h.b.ltg
  have hap := h.r.apart
  obtain ⟨ne1, ne2, ne3⟩ := h.b.rs_ne h.r
  have Ha := hide' (fun w h => join_self x g R p w h)
  have Hr := hide' (fun w (h : Rs B0 y ao cap R p w) => rjoin_two h h)
  clear h
  generalize B.laid bOr R p p = P at *
  generalize B.chg p P (nw R) = bb at *
  have ebb : (bb == bb) = true := by simp
  have c00 : (((w.alloc (.cells #[.pointer (some ⟨x, 0, none⟩), .pointer (some ⟨y, 0, none⟩)] 31)).alloc (.cells #[.pointer (some ⟨x, 0, none⟩), .pointer (some ⟨y, 0, none⟩)] 31)).alloc (.cells #[.int .i64 5, .int .i64 s, .int .i64 o, .int .i64 n] 33)).cell? ⟨w.heap.size, 0, none⟩ = some (.pointer (some ⟨x, 0, none⟩)) := by go_simp
  have c01 : (((w.alloc (.cells #[.pointer (some ⟨x, 0, none⟩), .pointer (some ⟨y, 0, none⟩)] 31)).alloc (.cells #[.pointer (some ⟨x, 0, none⟩), .pointer (some ⟨y, 0, none⟩)] 31)).alloc (.cells #[.int .i64 5, .int .i64 s, .int .i64 o, .int .i64 n] 33)).cell? ⟨w.heap.size, 1, none⟩ = some (.pointer (some ⟨y, 0, none⟩)) := by go_simp
  have c10 : (((w.alloc (.cells #[.pointer (some ⟨x, 0, none⟩), .pointer (some ⟨y, 0, none⟩)] 31)).alloc (.cells #[.pointer (some ⟨x, 0, none⟩), .pointer (some ⟨y, 0, none⟩)] 31)).alloc (.cells #[.int .i64 5, .int .i64 s, .int .i64 o, .int .i64 n] 33)).cell? ⟨w.heap.size + 1, 0, none⟩ = some (.pointer (some ⟨x, 0, none⟩)) := by go_simp
  have c11 : (((w.alloc (.cells #[.pointer (some ⟨x, 0, none⟩), .pointer (some ⟨y, 0, none⟩)] 31)).alloc (.cells #[.pointer (some ⟨x, 0, none⟩), .pointer (some ⟨y, 0, none⟩)] 31)).alloc (.cells #[.int .i64 5, .int .i64 s, .int .i64 o, .int .i64 n] 33)).cell? ⟨w.heap.size + 1, 1, none⟩ = some (.pointer (some ⟨y, 0, none⟩)) := by go_simp
  have hsz : w.heap.size + 1 < (((w.alloc (.cells #[.pointer (some ⟨x, 0, none⟩), .pointer (some ⟨y, 0, none⟩)] 31)).alloc (.cells #[.pointer (some ⟨x, 0, none⟩), .pointer (some ⟨y, 0, none⟩)] 31)).alloc (.cells #[.int .i64 5, .int .i64 s, .int .i64 o, .int .i64 n] 33)).heap.size := by simp
  go_enter Try.func13, Try.ntmps13
  go_wp2
  generalize (((w.alloc (.cells #[.pointer (some ⟨x, 0, none⟩), .pointer (some ⟨y, 0, none⟩)] 31)).alloc (.cells #[.pointer (some ⟨x, 0, none⟩), .pointer (some ⟨y, 0, none⟩)] 31)).alloc (.cells #[.int .i64 5, .int .i64 s, .int .i64 o, .int .i64 n] 33)) = W at *
  generalize w.heap.size = b at *
  have hP1 := hP.drewN 1
  have Hg : Hid (∀ j, Rrow ao j → ¬ j = g) := fun j hj e => ne2 (e ▸ hj)
  go_region_held3 (fun w' => w'.cell? ⟨b, 0, none⟩ = some (.pointer (some ⟨x, 0, none⟩)) ∧ w'.cell? ⟨b, 1, none⟩ = some (.pointer (some ⟨y, 0, none⟩)) ∧ w'.cell? ⟨b + 1, 0, none⟩ = some (.pointer (some ⟨x, 0, none⟩)) ∧ w'.cell? ⟨b + 1, 1, none⟩ = some (.pointer (some ⟨y, 0, none⟩))) (first | go_keep | exact ⟨m0, m1, m2, m3⟩ | exact ⟨k0, k1, k2, k3⟩) ((first | (go_at_call 43; refine (Hr.out w1 hR1).mono ?_; rintro e w2 ⟨rfl, hR2, t2⟩; have hB2 := hB1.kept t2 ne3 ne2; have m0 := (t2.cell (p := ⟨b, 0, none⟩) (show b < w1.heap.size by omega) (fun q => Nat.lt_irrefl _ (hap b q).2.2)).trans k0; have m1 := (t2.cell (p := ⟨b, 1, none⟩) (show b < w1.heap.size by omega) (fun q => Nat.lt_irrefl _ (hap b q).2.2)).trans k1; have m2 := (t2.cell (p := ⟨b + 1, 0, none⟩) (show b + 1 < w1.heap.size by omega) (fun q => absurd (hap (b + 1) q).2.2 (by omega))).trans k2; have m3 := (t2.cell (p := ⟨b + 1, 1, none⟩) (show b + 1 < w1.heap.size by omega) (fun q => absurd (hap (b + 1) q).2.2 (by omega))).trans k3) | (go_at_call 31; refine (Ha.out W.drew hP1.b).mono ?_; rintro e w1 ⟨rfl, hB1, t1⟩; have hs1 : W.heap.size ≤ w1.heap.size := t1.size; have hR1 := hP1.r.kept t1 (fun q => ne1 q.symm) Hg.out; have k0 := (t1.cell (p := ⟨b, 0, none⟩) (show b < W.heap.size by omega) (show ¬ b = g by omega)).trans c00; have k1 := (t1.cell (p := ⟨b, 1, none⟩) (show b < W.heap.size by omega) (show ¬ b = g by omega)).trans c01; have k2 := (t1.cell (p := ⟨b + 1, 0, none⟩) (show b + 1 < W.heap.size by omega) (show ¬ b + 1 = g by omega)).trans c10; have k3 := (t1.cell (p := ⟨b + 1, 1, none⟩) (show b + 1 < W.heap.size by omega) (show ¬ b + 1 = g by omega)).trans c11)))
  go_wp2
  go_ret
  exact ⟨rfl, _, ⟨hB2, hR2⟩, (tW.trans (((Turn.refl (Two g ao) W).drew).trans (t1.mono (fun _ _ q => .inl q)))).trans (t2.mono (fun _ _ q => .inr q))⟩
set_option maxHeartbeats 2000000 in
set_option maxRecDepth 100000 in
theorem two_join_two (x g R B0 y : Nat) (ao : Option Addr) (cap : Nat) (p : Nat → Bool) (s o n : Int) (w : World) (h : Pr x g R B0 y ao cap p w) (x2 g2 R2 B2 y2 : Nat) (ao2 : Option Addr) (cap2 : Nat) (q : Nat → Bool) (hQ : Pr x2 g2 R2 B2 y2 ao2 cap2 q w) (hne : g2 ≠ g) (hrr : ∀ j, Rrow ao2 j → ¬ Rrow ao j) :
    Calls Try.prog 13 #[.agg #[.pointer (some ⟨x, 0, none⟩), .pointer (some ⟨y, 0, none⟩)], .agg #[.pointer (some ⟨x2, 0, none⟩), .pointer (some ⟨y2, 0, none⟩)], .agg #[.int .i64 5, .int .i64 s, .int .i64 o, .int .i64 n]] w fun e w' => e = .returned (.bool true) ∧ ∃ p', Pr x g R B0 y ao cap p' w' ∧ Turn (Two g ao) w w' := by
  have hP := h.kept ((((Turn.refl (fun _ => False) w).alloc (.cells #[.pointer (some ⟨x, 0, none⟩), .pointer (some ⟨y, 0, none⟩)] 31)).alloc (.cells #[.pointer (some ⟨x2, 0, none⟩), .pointer (some ⟨y2, 0, none⟩)] 31)).alloc (.cells #[.int .i64 5, .int .i64 s, .int .i64 o, .int .i64 n] 33)) (fun q => q) (fun q => q) (fun q => q) (fun _ _ q => q)
  have tW : Turn (Two g ao) w (((w.alloc (.cells #[.pointer (some ⟨x, 0, none⟩), .pointer (some ⟨y, 0, none⟩)] 31)).alloc (.cells #[.pointer (some ⟨x2, 0, none⟩), .pointer (some ⟨y2, 0, none⟩)] 31)).alloc (.cells #[.int .i64 5, .int .i64 s, .int .i64 o, .int .i64 n] 33)) := (((Turn.refl _ w).alloc _).alloc _).alloc _
  have hQW := hQ.kept ((((Turn.refl (fun _ => False) w).alloc (.cells #[.pointer (some ⟨x, 0, none⟩), .pointer (some ⟨y, 0, none⟩)] 31)).alloc (.cells #[.pointer (some ⟨x2, 0, none⟩), .pointer (some ⟨y2, 0, none⟩)] 31)).alloc (.cells #[.int .i64 5, .int .i64 s, .int .i64 o, .int .i64 n] 33)) (fun q => q) (fun q => q) (fun q => q) (fun _ _ q => q)
  obtain ⟨me1, me2, me3⟩ := h.b.rs_ne hQ.r
  have hgl := h.b.ltg
  have hap := h.r.apart
  obtain ⟨ne1, ne2, ne3⟩ := h.b.rs_ne h.r
  have Ha := hide' (fun w h h2 => join_two x g R x2 g2 R2 p q w h h2 hne)
  have Hr := hide' (fun w (h : Rs B0 y ao cap R p w) (h2 : Rs B2 y2 ao2 cap2 R2 q w) => rjoin_two h h2)
  clear h
  generalize B.laid bOr R p q = P at *
  generalize B.chg p P (nw R) = bb at *
  have ebb : (bb == bb) = true := by simp
  have c00 : (((w.alloc (.cells #[.pointer (some ⟨x, 0, none⟩), .pointer (some ⟨y, 0, none⟩)] 31)).alloc (.cells #[.pointer (some ⟨x2, 0, none⟩), .pointer (some ⟨y2, 0, none⟩)] 31)).alloc (.cells #[.int .i64 5, .int .i64 s, .int .i64 o, .int .i64 n] 33)).cell? ⟨w.heap.size, 0, none⟩ = some (.pointer (some ⟨x, 0, none⟩)) := by go_simp
  have c01 : (((w.alloc (.cells #[.pointer (some ⟨x, 0, none⟩), .pointer (some ⟨y, 0, none⟩)] 31)).alloc (.cells #[.pointer (some ⟨x2, 0, none⟩), .pointer (some ⟨y2, 0, none⟩)] 31)).alloc (.cells #[.int .i64 5, .int .i64 s, .int .i64 o, .int .i64 n] 33)).cell? ⟨w.heap.size, 1, none⟩ = some (.pointer (some ⟨y, 0, none⟩)) := by go_simp
  have c10 : (((w.alloc (.cells #[.pointer (some ⟨x, 0, none⟩), .pointer (some ⟨y, 0, none⟩)] 31)).alloc (.cells #[.pointer (some ⟨x2, 0, none⟩), .pointer (some ⟨y2, 0, none⟩)] 31)).alloc (.cells #[.int .i64 5, .int .i64 s, .int .i64 o, .int .i64 n] 33)).cell? ⟨w.heap.size + 1, 0, none⟩ = some (.pointer (some ⟨x2, 0, none⟩)) := by go_simp
  have c11 : (((w.alloc (.cells #[.pointer (some ⟨x, 0, none⟩), .pointer (some ⟨y, 0, none⟩)] 31)).alloc (.cells #[.pointer (some ⟨x2, 0, none⟩), .pointer (some ⟨y2, 0, none⟩)] 31)).alloc (.cells #[.int .i64 5, .int .i64 s, .int .i64 o, .int .i64 n] 33)).cell? ⟨w.heap.size + 1, 1, none⟩ = some (.pointer (some ⟨y2, 0, none⟩)) := by go_simp
  have hsz : w.heap.size + 1 < (((w.alloc (.cells #[.pointer (some ⟨x, 0, none⟩), .pointer (some ⟨y, 0, none⟩)] 31)).alloc (.cells #[.pointer (some ⟨x2, 0, none⟩), .pointer (some ⟨y2, 0, none⟩)] 31)).alloc (.cells #[.int .i64 5, .int .i64 s, .int .i64 o, .int .i64 n] 33)).heap.size := by simp
  go_enter Try.func13, Try.ntmps13
  go_wp2
  generalize (((w.alloc (.cells #[.pointer (some ⟨x, 0, none⟩), .pointer (some ⟨y, 0, none⟩)] 31)).alloc (.cells #[.pointer (some ⟨x2, 0, none⟩), .pointer (some ⟨y2, 0, none⟩)] 31)).alloc (.cells #[.int .i64 5, .int .i64 s, .int .i64 o, .int .i64 n] 33)) = W at *
  generalize w.heap.size = b at *
  have hP1 := hP.drewN 1
  have hQ1 := hQW.drewN 1
  have Hg2 : Hid (∀ j, Rrow ao2 j → ¬ j = g) := fun j hj e => me2 (e ▸ hj)
  have Hg : Hid (∀ j, Rrow ao j → ¬ j = g) := fun j hj e => ne2 (e ▸ hj)
  go_region_held3 (fun w' => w'.cell? ⟨b, 0, none⟩ = some (.pointer (some ⟨x, 0, none⟩)) ∧ w'.cell? ⟨b, 1, none⟩ = some (.pointer (some ⟨y, 0, none⟩)) ∧ w'.cell? ⟨b + 1, 0, none⟩ = some (.pointer (some ⟨x2, 0, none⟩)) ∧ w'.cell? ⟨b + 1, 1, none⟩ = some (.pointer (some ⟨y2, 0, none⟩))) (first | go_keep | exact ⟨m0, m1, m2, m3⟩ | exact ⟨k0, k1, k2, k3⟩) ((first | (go_at_call 43; refine (Hr.out w1 hR1 hQ2).mono ?_; rintro e w2 ⟨rfl, hR2, t2⟩; have hB2 := hB1.kept t2 ne3 ne2; have m0 := (t2.cell (p := ⟨b, 0, none⟩) (show b < w1.heap.size by omega) (fun q => Nat.lt_irrefl _ (hap b q).2.2)).trans k0; have m1 := (t2.cell (p := ⟨b, 1, none⟩) (show b < w1.heap.size by omega) (fun q => Nat.lt_irrefl _ (hap b q).2.2)).trans k1; have m2 := (t2.cell (p := ⟨b + 1, 0, none⟩) (show b + 1 < w1.heap.size by omega) (fun q => absurd (hap (b + 1) q).2.2 (by omega))).trans k2; have m3 := (t2.cell (p := ⟨b + 1, 1, none⟩) (show b + 1 < w1.heap.size by omega) (fun q => absurd (hap (b + 1) q).2.2 (by omega))).trans k3) | (go_at_call 31; refine (Ha.out W.drew hP1.b hQ1.b).mono ?_; rintro e w1 ⟨rfl, hB1, t1⟩; have hs1 : W.heap.size ≤ w1.heap.size := t1.size; have hR1 := hP1.r.kept t1 (fun q => ne1 q.symm) Hg.out; have hQ2 := hQ1.r.kept t1 (fun q => me1 q.symm) Hg2.out; have k0 := (t1.cell (p := ⟨b, 0, none⟩) (show b < W.heap.size by omega) (show ¬ b = g by omega)).trans c00; have k1 := (t1.cell (p := ⟨b, 1, none⟩) (show b < W.heap.size by omega) (show ¬ b = g by omega)).trans c01; have k2 := (t1.cell (p := ⟨b + 1, 0, none⟩) (show b + 1 < W.heap.size by omega) (show ¬ b + 1 = g by omega)).trans c10; have k3 := (t1.cell (p := ⟨b + 1, 1, none⟩) (show b + 1 < W.heap.size by omega) (show ¬ b + 1 = g by omega)).trans c11)))
  go_wp2
  go_ret
  exact ⟨rfl, _, ⟨hB2, hR2⟩, (tW.trans (((Turn.refl (Two g ao) W).drew).trans (t1.mono (fun _ _ q => .inl q)))).trans (t2.mono (fun _ _ q => .inr q))⟩
set_option maxHeartbeats 2000000 in
set_option maxRecDepth 100000 in
theorem two_meet_nil (x g R B0 y : Nat) (ao : Option Addr) (cap : Nat) (p : Nat → Bool) (s o n : Int) (w : World) (h : Pr x g R B0 y ao cap p w) :
    Calls Try.prog 13 #[.agg #[.pointer (some ⟨x, 0, none⟩), .pointer (some ⟨y, 0, none⟩)], .agg #[.pointer none, .pointer none], .agg #[.int .i64 6, .int .i64 s, .int .i64 o, .int .i64 n]] w fun e w' => e = .returned (.bool true) ∧ ∃ p', Pr x g R B0 y ao cap p' w' ∧ Turn (Two g ao) w w' := by
  have hP := h.kept ((((Turn.refl (fun _ => False) w).alloc (.cells #[.pointer (some ⟨x, 0, none⟩), .pointer (some ⟨y, 0, none⟩)] 31)).alloc (.cells #[.pointer none, .pointer none] 31)).alloc (.cells #[.int .i64 6, .int .i64 s, .int .i64 o, .int .i64 n] 33)) (fun q => q) (fun q => q) (fun q => q) (fun _ _ q => q)
  have tW : Turn (Two g ao) w (((w.alloc (.cells #[.pointer (some ⟨x, 0, none⟩), .pointer (some ⟨y, 0, none⟩)] 31)).alloc (.cells #[.pointer none, .pointer none] 31)).alloc (.cells #[.int .i64 6, .int .i64 s, .int .i64 o, .int .i64 n] 33)) := (((Turn.refl _ w).alloc _).alloc _).alloc _
  have hgl := h.b.ltg
  have hap := h.r.apart
  obtain ⟨ne1, ne2, ne3⟩ := h.b.rs_ne h.r
  have Ha := hide' (fun w h => meet_nil x g R p w h)
  have Hr := hide' (fun w (h : Rs B0 y ao cap R p w) => rmeet_nil h)
  clear h
  generalize B.laid bAnd R p (fun _ => false) = P at *
  generalize B.chg p P (nw R) = bb at *
  have ebb : (bb == bb) = true := by simp
  have c00 : (((w.alloc (.cells #[.pointer (some ⟨x, 0, none⟩), .pointer (some ⟨y, 0, none⟩)] 31)).alloc (.cells #[.pointer none, .pointer none] 31)).alloc (.cells #[.int .i64 6, .int .i64 s, .int .i64 o, .int .i64 n] 33)).cell? ⟨w.heap.size, 0, none⟩ = some (.pointer (some ⟨x, 0, none⟩)) := by go_simp
  have c01 : (((w.alloc (.cells #[.pointer (some ⟨x, 0, none⟩), .pointer (some ⟨y, 0, none⟩)] 31)).alloc (.cells #[.pointer none, .pointer none] 31)).alloc (.cells #[.int .i64 6, .int .i64 s, .int .i64 o, .int .i64 n] 33)).cell? ⟨w.heap.size, 1, none⟩ = some (.pointer (some ⟨y, 0, none⟩)) := by go_simp
  have c10 : (((w.alloc (.cells #[.pointer (some ⟨x, 0, none⟩), .pointer (some ⟨y, 0, none⟩)] 31)).alloc (.cells #[.pointer none, .pointer none] 31)).alloc (.cells #[.int .i64 6, .int .i64 s, .int .i64 o, .int .i64 n] 33)).cell? ⟨w.heap.size + 1, 0, none⟩ = some (.pointer none) := by go_simp
  have c11 : (((w.alloc (.cells #[.pointer (some ⟨x, 0, none⟩), .pointer (some ⟨y, 0, none⟩)] 31)).alloc (.cells #[.pointer none, .pointer none] 31)).alloc (.cells #[.int .i64 6, .int .i64 s, .int .i64 o, .int .i64 n] 33)).cell? ⟨w.heap.size + 1, 1, none⟩ = some (.pointer none) := by go_simp
  have hsz : w.heap.size + 1 < (((w.alloc (.cells #[.pointer (some ⟨x, 0, none⟩), .pointer (some ⟨y, 0, none⟩)] 31)).alloc (.cells #[.pointer none, .pointer none] 31)).alloc (.cells #[.int .i64 6, .int .i64 s, .int .i64 o, .int .i64 n] 33)).heap.size := by simp
  go_enter Try.func13, Try.ntmps13
  go_wp2
  generalize (((w.alloc (.cells #[.pointer (some ⟨x, 0, none⟩), .pointer (some ⟨y, 0, none⟩)] 31)).alloc (.cells #[.pointer none, .pointer none] 31)).alloc (.cells #[.int .i64 6, .int .i64 s, .int .i64 o, .int .i64 n] 33)) = W at *
  generalize w.heap.size = b at *
  have hP1 := hP.drewN 1
  have Hg : Hid (∀ j, Rrow ao j → ¬ j = g) := fun j hj e => ne2 (e ▸ hj)
  go_region_held3 (fun w' => w'.cell? ⟨b, 0, none⟩ = some (.pointer (some ⟨x, 0, none⟩)) ∧ w'.cell? ⟨b, 1, none⟩ = some (.pointer (some ⟨y, 0, none⟩)) ∧ w'.cell? ⟨b + 1, 0, none⟩ = some (.pointer none) ∧ w'.cell? ⟨b + 1, 1, none⟩ = some (.pointer none)) (first | go_keep | exact ⟨m0, m1, m2, m3⟩ | exact ⟨k0, k1, k2, k3⟩) ((first | (go_at_call 44; refine (Hr.out w1 hR1).mono ?_; rintro e w2 ⟨rfl, hR2, t2⟩; have hB2 := hB1.kept t2 ne3 ne2; have m0 := (t2.cell (p := ⟨b, 0, none⟩) (show b < w1.heap.size by omega) (fun q => Nat.lt_irrefl _ (hap b q).2.2)).trans k0; have m1 := (t2.cell (p := ⟨b, 1, none⟩) (show b < w1.heap.size by omega) (fun q => Nat.lt_irrefl _ (hap b q).2.2)).trans k1; have m2 := (t2.cell (p := ⟨b + 1, 0, none⟩) (show b + 1 < w1.heap.size by omega) (fun q => absurd (hap (b + 1) q).2.2 (by omega))).trans k2; have m3 := (t2.cell (p := ⟨b + 1, 1, none⟩) (show b + 1 < w1.heap.size by omega) (fun q => absurd (hap (b + 1) q).2.2 (by omega))).trans k3) | (go_at_call 32; refine (Ha.out W.drew hP1.b).mono ?_; rintro e w1 ⟨rfl, hB1, t1⟩; have hs1 : W.heap.size ≤ w1.heap.size := t1.size; have hR1 := hP1.r.kept t1 (fun q => ne1 q.symm) Hg.out; have k0 := (t1.cell (p := ⟨b, 0, none⟩) (show b < W.heap.size by omega) (show ¬ b = g by omega)).trans c00; have k1 := (t1.cell (p := ⟨b, 1, none⟩) (show b < W.heap.size by omega) (show ¬ b = g by omega)).trans c01; have k2 := (t1.cell (p := ⟨b + 1, 0, none⟩) (show b + 1 < W.heap.size by omega) (show ¬ b + 1 = g by omega)).trans c10; have k3 := (t1.cell (p := ⟨b + 1, 1, none⟩) (show b + 1 < W.heap.size by omega) (show ¬ b + 1 = g by omega)).trans c11)))
  go_wp2
  go_ret
  exact ⟨rfl, _, ⟨hB2, hR2⟩, (tW.trans (((Turn.refl (Two g ao) W).drew).trans (t1.mono (fun _ _ q => .inl q)))).trans (t2.mono (fun _ _ q => .inr q))⟩
set_option maxHeartbeats 2000000 in
set_option maxRecDepth 100000 in
theorem two_meet_self (x g R B0 y : Nat) (ao : Option Addr) (cap : Nat) (p : Nat → Bool) (s o n : Int) (w : World) (h : Pr x g R B0 y ao cap p w) :
    Calls Try.prog 13 #[.agg #[.pointer (some ⟨x, 0, none⟩), .pointer (some ⟨y, 0, none⟩)], .agg #[.pointer (some ⟨x, 0, none⟩), .pointer (some ⟨y, 0, none⟩)], .agg #[.int .i64 6, .int .i64 s, .int .i64 o, .int .i64 n]] w fun e w' => e = .returned (.bool true) ∧ ∃ p', Pr x g R B0 y ao cap p' w' ∧ Turn (Two g ao) w w' := by
  have hP := h.kept ((((Turn.refl (fun _ => False) w).alloc (.cells #[.pointer (some ⟨x, 0, none⟩), .pointer (some ⟨y, 0, none⟩)] 31)).alloc (.cells #[.pointer (some ⟨x, 0, none⟩), .pointer (some ⟨y, 0, none⟩)] 31)).alloc (.cells #[.int .i64 6, .int .i64 s, .int .i64 o, .int .i64 n] 33)) (fun q => q) (fun q => q) (fun q => q) (fun _ _ q => q)
  have tW : Turn (Two g ao) w (((w.alloc (.cells #[.pointer (some ⟨x, 0, none⟩), .pointer (some ⟨y, 0, none⟩)] 31)).alloc (.cells #[.pointer (some ⟨x, 0, none⟩), .pointer (some ⟨y, 0, none⟩)] 31)).alloc (.cells #[.int .i64 6, .int .i64 s, .int .i64 o, .int .i64 n] 33)) := (((Turn.refl _ w).alloc _).alloc _).alloc _
  have hgl := h.b.ltg
  have hap := h.r.apart
  obtain ⟨ne1, ne2, ne3⟩ := h.b.rs_ne h.r
  have Ha := hide' (fun w h => meet_self x g R p w h)
  have Hr := hide' (fun w (h : Rs B0 y ao cap R p w) => rmeet_self h)
  clear h
  generalize B.laid bAnd R p p = P at *
  generalize B.chg p P (nw R) = bb at *
  have ebb : (bb == bb) = true := by simp
  have c00 : (((w.alloc (.cells #[.pointer (some ⟨x, 0, none⟩), .pointer (some ⟨y, 0, none⟩)] 31)).alloc (.cells #[.pointer (some ⟨x, 0, none⟩), .pointer (some ⟨y, 0, none⟩)] 31)).alloc (.cells #[.int .i64 6, .int .i64 s, .int .i64 o, .int .i64 n] 33)).cell? ⟨w.heap.size, 0, none⟩ = some (.pointer (some ⟨x, 0, none⟩)) := by go_simp
  have c01 : (((w.alloc (.cells #[.pointer (some ⟨x, 0, none⟩), .pointer (some ⟨y, 0, none⟩)] 31)).alloc (.cells #[.pointer (some ⟨x, 0, none⟩), .pointer (some ⟨y, 0, none⟩)] 31)).alloc (.cells #[.int .i64 6, .int .i64 s, .int .i64 o, .int .i64 n] 33)).cell? ⟨w.heap.size, 1, none⟩ = some (.pointer (some ⟨y, 0, none⟩)) := by go_simp
  have c10 : (((w.alloc (.cells #[.pointer (some ⟨x, 0, none⟩), .pointer (some ⟨y, 0, none⟩)] 31)).alloc (.cells #[.pointer (some ⟨x, 0, none⟩), .pointer (some ⟨y, 0, none⟩)] 31)).alloc (.cells #[.int .i64 6, .int .i64 s, .int .i64 o, .int .i64 n] 33)).cell? ⟨w.heap.size + 1, 0, none⟩ = some (.pointer (some ⟨x, 0, none⟩)) := by go_simp
  have c11 : (((w.alloc (.cells #[.pointer (some ⟨x, 0, none⟩), .pointer (some ⟨y, 0, none⟩)] 31)).alloc (.cells #[.pointer (some ⟨x, 0, none⟩), .pointer (some ⟨y, 0, none⟩)] 31)).alloc (.cells #[.int .i64 6, .int .i64 s, .int .i64 o, .int .i64 n] 33)).cell? ⟨w.heap.size + 1, 1, none⟩ = some (.pointer (some ⟨y, 0, none⟩)) := by go_simp
  have hsz : w.heap.size + 1 < (((w.alloc (.cells #[.pointer (some ⟨x, 0, none⟩), .pointer (some ⟨y, 0, none⟩)] 31)).alloc (.cells #[.pointer (some ⟨x, 0, none⟩), .pointer (some ⟨y, 0, none⟩)] 31)).alloc (.cells #[.int .i64 6, .int .i64 s, .int .i64 o, .int .i64 n] 33)).heap.size := by simp
  go_enter Try.func13, Try.ntmps13
  go_wp2
  generalize (((w.alloc (.cells #[.pointer (some ⟨x, 0, none⟩), .pointer (some ⟨y, 0, none⟩)] 31)).alloc (.cells #[.pointer (some ⟨x, 0, none⟩), .pointer (some ⟨y, 0, none⟩)] 31)).alloc (.cells #[.int .i64 6, .int .i64 s, .int .i64 o, .int .i64 n] 33)) = W at *
  generalize w.heap.size = b at *
  have hP1 := hP.drewN 1
  have Hg : Hid (∀ j, Rrow ao j → ¬ j = g) := fun j hj e => ne2 (e ▸ hj)
  go_region_held3 (fun w' => w'.cell? ⟨b, 0, none⟩ = some (.pointer (some ⟨x, 0, none⟩)) ∧ w'.cell? ⟨b, 1, none⟩ = some (.pointer (some ⟨y, 0, none⟩)) ∧ w'.cell? ⟨b + 1, 0, none⟩ = some (.pointer (some ⟨x, 0, none⟩)) ∧ w'.cell? ⟨b + 1, 1, none⟩ = some (.pointer (some ⟨y, 0, none⟩))) (first | go_keep | exact ⟨m0, m1, m2, m3⟩ | exact ⟨k0, k1, k2, k3⟩) ((first | (go_at_call 44; refine (Hr.out w1 hR1).mono ?_; rintro e w2 ⟨rfl, hR2, t2⟩; have hB2 := hB1.kept t2 ne3 ne2; have m0 := (t2.cell (p := ⟨b, 0, none⟩) (show b < w1.heap.size by omega) (fun q => Nat.lt_irrefl _ (hap b q).2.2)).trans k0; have m1 := (t2.cell (p := ⟨b, 1, none⟩) (show b < w1.heap.size by omega) (fun q => Nat.lt_irrefl _ (hap b q).2.2)).trans k1; have m2 := (t2.cell (p := ⟨b + 1, 0, none⟩) (show b + 1 < w1.heap.size by omega) (fun q => absurd (hap (b + 1) q).2.2 (by omega))).trans k2; have m3 := (t2.cell (p := ⟨b + 1, 1, none⟩) (show b + 1 < w1.heap.size by omega) (fun q => absurd (hap (b + 1) q).2.2 (by omega))).trans k3) | (go_at_call 32; refine (Ha.out W.drew hP1.b).mono ?_; rintro e w1 ⟨rfl, hB1, t1⟩; have hs1 : W.heap.size ≤ w1.heap.size := t1.size; have hR1 := hP1.r.kept t1 (fun q => ne1 q.symm) Hg.out; have k0 := (t1.cell (p := ⟨b, 0, none⟩) (show b < W.heap.size by omega) (show ¬ b = g by omega)).trans c00; have k1 := (t1.cell (p := ⟨b, 1, none⟩) (show b < W.heap.size by omega) (show ¬ b = g by omega)).trans c01; have k2 := (t1.cell (p := ⟨b + 1, 0, none⟩) (show b + 1 < W.heap.size by omega) (show ¬ b + 1 = g by omega)).trans c10; have k3 := (t1.cell (p := ⟨b + 1, 1, none⟩) (show b + 1 < W.heap.size by omega) (show ¬ b + 1 = g by omega)).trans c11)))
  go_wp2
  go_ret
  exact ⟨rfl, _, ⟨hB2, hR2⟩, (tW.trans (((Turn.refl (Two g ao) W).drew).trans (t1.mono (fun _ _ q => .inl q)))).trans (t2.mono (fun _ _ q => .inr q))⟩
set_option maxHeartbeats 2000000 in
set_option maxRecDepth 100000 in
theorem two_meet_two (x g R B0 y : Nat) (ao : Option Addr) (cap : Nat) (p : Nat → Bool) (s o n : Int) (w : World) (h : Pr x g R B0 y ao cap p w) (x2 g2 R2 B2 y2 : Nat) (ao2 : Option Addr) (cap2 : Nat) (q : Nat → Bool) (hQ : Pr x2 g2 R2 B2 y2 ao2 cap2 q w) (hne : g2 ≠ g) (hrr : ∀ j, Rrow ao2 j → ¬ Rrow ao j) :
    Calls Try.prog 13 #[.agg #[.pointer (some ⟨x, 0, none⟩), .pointer (some ⟨y, 0, none⟩)], .agg #[.pointer (some ⟨x2, 0, none⟩), .pointer (some ⟨y2, 0, none⟩)], .agg #[.int .i64 6, .int .i64 s, .int .i64 o, .int .i64 n]] w fun e w' => e = .returned (.bool true) ∧ ∃ p', Pr x g R B0 y ao cap p' w' ∧ Turn (Two g ao) w w' := by
  have hP := h.kept ((((Turn.refl (fun _ => False) w).alloc (.cells #[.pointer (some ⟨x, 0, none⟩), .pointer (some ⟨y, 0, none⟩)] 31)).alloc (.cells #[.pointer (some ⟨x2, 0, none⟩), .pointer (some ⟨y2, 0, none⟩)] 31)).alloc (.cells #[.int .i64 6, .int .i64 s, .int .i64 o, .int .i64 n] 33)) (fun q => q) (fun q => q) (fun q => q) (fun _ _ q => q)
  have tW : Turn (Two g ao) w (((w.alloc (.cells #[.pointer (some ⟨x, 0, none⟩), .pointer (some ⟨y, 0, none⟩)] 31)).alloc (.cells #[.pointer (some ⟨x2, 0, none⟩), .pointer (some ⟨y2, 0, none⟩)] 31)).alloc (.cells #[.int .i64 6, .int .i64 s, .int .i64 o, .int .i64 n] 33)) := (((Turn.refl _ w).alloc _).alloc _).alloc _
  have hQW := hQ.kept ((((Turn.refl (fun _ => False) w).alloc (.cells #[.pointer (some ⟨x, 0, none⟩), .pointer (some ⟨y, 0, none⟩)] 31)).alloc (.cells #[.pointer (some ⟨x2, 0, none⟩), .pointer (some ⟨y2, 0, none⟩)] 31)).alloc (.cells #[.int .i64 6, .int .i64 s, .int .i64 o, .int .i64 n] 33)) (fun q => q) (fun q => q) (fun q => q) (fun _ _ q => q)
  obtain ⟨me1, me2, me3⟩ := h.b.rs_ne hQ.r
  have hgl := h.b.ltg
  have hap := h.r.apart
  obtain ⟨ne1, ne2, ne3⟩ := h.b.rs_ne h.r
  have Ha := hide' (fun w h h2 => meet_two x g R x2 g2 R2 p q w h h2 hne)
  have Hr := hide' (fun w (h : Rs B0 y ao cap R p w) (h2 : Rs B2 y2 ao2 cap2 R2 q w) => rmeet_two h h2 (h.ne2 h2) hrr)
  clear h
  generalize B.laid bAnd R p q = P at *
  generalize B.chg p P (nw R) = bb at *
  have ebb : (bb == bb) = true := by simp
  have c00 : (((w.alloc (.cells #[.pointer (some ⟨x, 0, none⟩), .pointer (some ⟨y, 0, none⟩)] 31)).alloc (.cells #[.pointer (some ⟨x2, 0, none⟩), .pointer (some ⟨y2, 0, none⟩)] 31)).alloc (.cells #[.int .i64 6, .int .i64 s, .int .i64 o, .int .i64 n] 33)).cell? ⟨w.heap.size, 0, none⟩ = some (.pointer (some ⟨x, 0, none⟩)) := by go_simp
  have c01 : (((w.alloc (.cells #[.pointer (some ⟨x, 0, none⟩), .pointer (some ⟨y, 0, none⟩)] 31)).alloc (.cells #[.pointer (some ⟨x2, 0, none⟩), .pointer (some ⟨y2, 0, none⟩)] 31)).alloc (.cells #[.int .i64 6, .int .i64 s, .int .i64 o, .int .i64 n] 33)).cell? ⟨w.heap.size, 1, none⟩ = some (.pointer (some ⟨y, 0, none⟩)) := by go_simp
  have c10 : (((w.alloc (.cells #[.pointer (some ⟨x, 0, none⟩), .pointer (some ⟨y, 0, none⟩)] 31)).alloc (.cells #[.pointer (some ⟨x2, 0, none⟩), .pointer (some ⟨y2, 0, none⟩)] 31)).alloc (.cells #[.int .i64 6, .int .i64 s, .int .i64 o, .int .i64 n] 33)).cell? ⟨w.heap.size + 1, 0, none⟩ = some (.pointer (some ⟨x2, 0, none⟩)) := by go_simp
  have c11 : (((w.alloc (.cells #[.pointer (some ⟨x, 0, none⟩), .pointer (some ⟨y, 0, none⟩)] 31)).alloc (.cells #[.pointer (some ⟨x2, 0, none⟩), .pointer (some ⟨y2, 0, none⟩)] 31)).alloc (.cells #[.int .i64 6, .int .i64 s, .int .i64 o, .int .i64 n] 33)).cell? ⟨w.heap.size + 1, 1, none⟩ = some (.pointer (some ⟨y2, 0, none⟩)) := by go_simp
  have hsz : w.heap.size + 1 < (((w.alloc (.cells #[.pointer (some ⟨x, 0, none⟩), .pointer (some ⟨y, 0, none⟩)] 31)).alloc (.cells #[.pointer (some ⟨x2, 0, none⟩), .pointer (some ⟨y2, 0, none⟩)] 31)).alloc (.cells #[.int .i64 6, .int .i64 s, .int .i64 o, .int .i64 n] 33)).heap.size := by simp
  go_enter Try.func13, Try.ntmps13
  go_wp2
  generalize (((w.alloc (.cells #[.pointer (some ⟨x, 0, none⟩), .pointer (some ⟨y, 0, none⟩)] 31)).alloc (.cells #[.pointer (some ⟨x2, 0, none⟩), .pointer (some ⟨y2, 0, none⟩)] 31)).alloc (.cells #[.int .i64 6, .int .i64 s, .int .i64 o, .int .i64 n] 33)) = W at *
  generalize w.heap.size = b at *
  have hP1 := hP.drewN 1
  have hQ1 := hQW.drewN 1
  have Hg2 : Hid (∀ j, Rrow ao2 j → ¬ j = g) := fun j hj e => me2 (e ▸ hj)
  have Hg : Hid (∀ j, Rrow ao j → ¬ j = g) := fun j hj e => ne2 (e ▸ hj)
  go_region_held3 (fun w' => w'.cell? ⟨b, 0, none⟩ = some (.pointer (some ⟨x, 0, none⟩)) ∧ w'.cell? ⟨b, 1, none⟩ = some (.pointer (some ⟨y, 0, none⟩)) ∧ w'.cell? ⟨b + 1, 0, none⟩ = some (.pointer (some ⟨x2, 0, none⟩)) ∧ w'.cell? ⟨b + 1, 1, none⟩ = some (.pointer (some ⟨y2, 0, none⟩))) (first | go_keep | exact ⟨m0, m1, m2, m3⟩ | exact ⟨k0, k1, k2, k3⟩) ((first | (go_at_call 44; refine (Hr.out w1 hR1 hQ2).mono ?_; rintro e w2 ⟨rfl, hR2, t2⟩; have hB2 := hB1.kept t2 ne3 ne2; have m0 := (t2.cell (p := ⟨b, 0, none⟩) (show b < w1.heap.size by omega) (fun q => Nat.lt_irrefl _ (hap b q).2.2)).trans k0; have m1 := (t2.cell (p := ⟨b, 1, none⟩) (show b < w1.heap.size by omega) (fun q => Nat.lt_irrefl _ (hap b q).2.2)).trans k1; have m2 := (t2.cell (p := ⟨b + 1, 0, none⟩) (show b + 1 < w1.heap.size by omega) (fun q => absurd (hap (b + 1) q).2.2 (by omega))).trans k2; have m3 := (t2.cell (p := ⟨b + 1, 1, none⟩) (show b + 1 < w1.heap.size by omega) (fun q => absurd (hap (b + 1) q).2.2 (by omega))).trans k3) | (go_at_call 32; refine (Ha.out W.drew hP1.b hQ1.b).mono ?_; rintro e w1 ⟨rfl, hB1, t1⟩; have hs1 : W.heap.size ≤ w1.heap.size := t1.size; have hR1 := hP1.r.kept t1 (fun q => ne1 q.symm) Hg.out; have hQ2 := hQ1.r.kept t1 (fun q => me1 q.symm) Hg2.out; have k0 := (t1.cell (p := ⟨b, 0, none⟩) (show b < W.heap.size by omega) (show ¬ b = g by omega)).trans c00; have k1 := (t1.cell (p := ⟨b, 1, none⟩) (show b < W.heap.size by omega) (show ¬ b = g by omega)).trans c01; have k2 := (t1.cell (p := ⟨b + 1, 0, none⟩) (show b + 1 < W.heap.size by omega) (show ¬ b + 1 = g by omega)).trans c10; have k3 := (t1.cell (p := ⟨b + 1, 1, none⟩) (show b + 1 < W.heap.size by omega) (show ¬ b + 1 = g by omega)).trans c11)))
  go_wp2
  go_ret
  exact ⟨rfl, _, ⟨hB2, hR2⟩, (tW.trans (((Turn.refl (Two g ao) W).drew).trans (t1.mono (fun _ _ q => .inl q)))).trans (t2.mono (fun _ _ q => .inr q))⟩
set_option maxHeartbeats 2000000 in
set_option maxRecDepth 100000 in
theorem two_less_nil (x g R B0 y : Nat) (ao : Option Addr) (cap : Nat) (p : Nat → Bool) (s o n : Int) (w : World) (h : Pr x g R B0 y ao cap p w) :
    Calls Try.prog 13 #[.agg #[.pointer (some ⟨x, 0, none⟩), .pointer (some ⟨y, 0, none⟩)], .agg #[.pointer none, .pointer none], .agg #[.int .i64 7, .int .i64 s, .int .i64 o, .int .i64 n]] w fun e w' => e = .returned (.bool true) ∧ ∃ p', Pr x g R B0 y ao cap p' w' ∧ Turn (Two g ao) w w' := by
  have hP := h.kept ((((Turn.refl (fun _ => False) w).alloc (.cells #[.pointer (some ⟨x, 0, none⟩), .pointer (some ⟨y, 0, none⟩)] 31)).alloc (.cells #[.pointer none, .pointer none] 31)).alloc (.cells #[.int .i64 7, .int .i64 s, .int .i64 o, .int .i64 n] 33)) (fun q => q) (fun q => q) (fun q => q) (fun _ _ q => q)
  have tW : Turn (Two g ao) w (((w.alloc (.cells #[.pointer (some ⟨x, 0, none⟩), .pointer (some ⟨y, 0, none⟩)] 31)).alloc (.cells #[.pointer none, .pointer none] 31)).alloc (.cells #[.int .i64 7, .int .i64 s, .int .i64 o, .int .i64 n] 33)) := (((Turn.refl _ w).alloc _).alloc _).alloc _
  have hgl := h.b.ltg
  have hap := h.r.apart
  obtain ⟨ne1, ne2, ne3⟩ := h.b.rs_ne h.r
  have Ha := hide' (fun w h => less_nil x g R p w h)
  have Hr := hide' (fun w (h : Rs B0 y ao cap R p w) => rless_nil h)
  clear h
  generalize B.laid bLess R p (fun _ => false) = P at *
  generalize B.chg p P (nw R) = bb at *
  have ebb : (bb == bb) = true := by simp
  have c00 : (((w.alloc (.cells #[.pointer (some ⟨x, 0, none⟩), .pointer (some ⟨y, 0, none⟩)] 31)).alloc (.cells #[.pointer none, .pointer none] 31)).alloc (.cells #[.int .i64 7, .int .i64 s, .int .i64 o, .int .i64 n] 33)).cell? ⟨w.heap.size, 0, none⟩ = some (.pointer (some ⟨x, 0, none⟩)) := by go_simp
  have c01 : (((w.alloc (.cells #[.pointer (some ⟨x, 0, none⟩), .pointer (some ⟨y, 0, none⟩)] 31)).alloc (.cells #[.pointer none, .pointer none] 31)).alloc (.cells #[.int .i64 7, .int .i64 s, .int .i64 o, .int .i64 n] 33)).cell? ⟨w.heap.size, 1, none⟩ = some (.pointer (some ⟨y, 0, none⟩)) := by go_simp
  have c10 : (((w.alloc (.cells #[.pointer (some ⟨x, 0, none⟩), .pointer (some ⟨y, 0, none⟩)] 31)).alloc (.cells #[.pointer none, .pointer none] 31)).alloc (.cells #[.int .i64 7, .int .i64 s, .int .i64 o, .int .i64 n] 33)).cell? ⟨w.heap.size + 1, 0, none⟩ = some (.pointer none) := by go_simp
  have c11 : (((w.alloc (.cells #[.pointer (some ⟨x, 0, none⟩), .pointer (some ⟨y, 0, none⟩)] 31)).alloc (.cells #[.pointer none, .pointer none] 31)).alloc (.cells #[.int .i64 7, .int .i64 s, .int .i64 o, .int .i64 n] 33)).cell? ⟨w.heap.size + 1, 1, none⟩ = some (.pointer none) := by go_simp
  have hsz : w.heap.size + 1 < (((w.alloc (.cells #[.pointer (some ⟨x, 0, none⟩), .pointer (some ⟨y, 0, none⟩)] 31)).alloc (.cells #[.pointer none, .pointer none] 31)).alloc (.cells #[.int .i64 7, .int .i64 s, .int .i64 o, .int .i64 n] 33)).heap.size := by simp
  go_enter Try.func13, Try.ntmps13
  go_wp2
  generalize (((w.alloc (.cells #[.pointer (some ⟨x, 0, none⟩), .pointer (some ⟨y, 0, none⟩)] 31)).alloc (.cells #[.pointer none, .pointer none] 31)).alloc (.cells #[.int .i64 7, .int .i64 s, .int .i64 o, .int .i64 n] 33)) = W at *
  generalize w.heap.size = b at *
  have hP1 := hP.drewN 1
  have Hg : Hid (∀ j, Rrow ao j → ¬ j = g) := fun j hj e => ne2 (e ▸ hj)
  go_region_held3 (fun w' => w'.cell? ⟨b, 0, none⟩ = some (.pointer (some ⟨x, 0, none⟩)) ∧ w'.cell? ⟨b, 1, none⟩ = some (.pointer (some ⟨y, 0, none⟩)) ∧ w'.cell? ⟨b + 1, 0, none⟩ = some (.pointer none) ∧ w'.cell? ⟨b + 1, 1, none⟩ = some (.pointer none)) (first | go_keep | exact ⟨m0, m1, m2, m3⟩ | exact ⟨k0, k1, k2, k3⟩) ((first | (go_at_call 45; refine (Hr.out w1 hR1).mono ?_; rintro e w2 ⟨rfl, hR2, t2⟩; have hB2 := hB1.kept t2 ne3 ne2; have m0 := (t2.cell (p := ⟨b, 0, none⟩) (show b < w1.heap.size by omega) (fun q => Nat.lt_irrefl _ (hap b q).2.2)).trans k0; have m1 := (t2.cell (p := ⟨b, 1, none⟩) (show b < w1.heap.size by omega) (fun q => Nat.lt_irrefl _ (hap b q).2.2)).trans k1; have m2 := (t2.cell (p := ⟨b + 1, 0, none⟩) (show b + 1 < w1.heap.size by omega) (fun q => absurd (hap (b + 1) q).2.2 (by omega))).trans k2; have m3 := (t2.cell (p := ⟨b + 1, 1, none⟩) (show b + 1 < w1.heap.size by omega) (fun q => absurd (hap (b + 1) q).2.2 (by omega))).trans k3) | (go_at_call 33; refine (Ha.out W.drew hP1.b).mono ?_; rintro e w1 ⟨rfl, hB1, t1⟩; have hs1 : W.heap.size ≤ w1.heap.size := t1.size; have hR1 := hP1.r.kept t1 (fun q => ne1 q.symm) Hg.out; have k0 := (t1.cell (p := ⟨b, 0, none⟩) (show b < W.heap.size by omega) (show ¬ b = g by omega)).trans c00; have k1 := (t1.cell (p := ⟨b, 1, none⟩) (show b < W.heap.size by omega) (show ¬ b = g by omega)).trans c01; have k2 := (t1.cell (p := ⟨b + 1, 0, none⟩) (show b + 1 < W.heap.size by omega) (show ¬ b + 1 = g by omega)).trans c10; have k3 := (t1.cell (p := ⟨b + 1, 1, none⟩) (show b + 1 < W.heap.size by omega) (show ¬ b + 1 = g by omega)).trans c11)))
  go_wp2
  go_ret
  exact ⟨rfl, _, ⟨hB2, hR2⟩, (tW.trans (((Turn.refl (Two g ao) W).drew).trans (t1.mono (fun _ _ q => .inl q)))).trans (t2.mono (fun _ _ q => .inr q))⟩
set_option maxHeartbeats 2000000 in
set_option maxRecDepth 100000 in
theorem two_less_self (x g R B0 y : Nat) (ao : Option Addr) (cap : Nat) (p : Nat → Bool) (s o n : Int) (w : World) (h : Pr x g R B0 y ao cap p w) :
    Calls Try.prog 13 #[.agg #[.pointer (some ⟨x, 0, none⟩), .pointer (some ⟨y, 0, none⟩)], .agg #[.pointer (some ⟨x, 0, none⟩), .pointer (some ⟨y, 0, none⟩)], .agg #[.int .i64 7, .int .i64 s, .int .i64 o, .int .i64 n]] w fun e w' => e = .returned (.bool true) ∧ ∃ p', Pr x g R B0 y ao cap p' w' ∧ Turn (Two g ao) w w' := by
  have hP := h.kept ((((Turn.refl (fun _ => False) w).alloc (.cells #[.pointer (some ⟨x, 0, none⟩), .pointer (some ⟨y, 0, none⟩)] 31)).alloc (.cells #[.pointer (some ⟨x, 0, none⟩), .pointer (some ⟨y, 0, none⟩)] 31)).alloc (.cells #[.int .i64 7, .int .i64 s, .int .i64 o, .int .i64 n] 33)) (fun q => q) (fun q => q) (fun q => q) (fun _ _ q => q)
  have tW : Turn (Two g ao) w (((w.alloc (.cells #[.pointer (some ⟨x, 0, none⟩), .pointer (some ⟨y, 0, none⟩)] 31)).alloc (.cells #[.pointer (some ⟨x, 0, none⟩), .pointer (some ⟨y, 0, none⟩)] 31)).alloc (.cells #[.int .i64 7, .int .i64 s, .int .i64 o, .int .i64 n] 33)) := (((Turn.refl _ w).alloc _).alloc _).alloc _
  have hgl := h.b.ltg
  have hap := h.r.apart
  obtain ⟨ne1, ne2, ne3⟩ := h.b.rs_ne h.r
  have Ha := hide' (fun w h => less_self x g R p w h)
  have Hr := hide' (fun w (h : Rs B0 y ao cap R p w) => rless_two h h)
  clear h
  generalize B.laid bLess R p p = P at *
  generalize B.chg p P (nw R) = bb at *
  have ebb : (bb == bb) = true := by simp
  have c00 : (((w.alloc (.cells #[.pointer (some ⟨x, 0, none⟩), .pointer (some ⟨y, 0, none⟩)] 31)).alloc (.cells #[.pointer (some ⟨x, 0, none⟩), .pointer (some ⟨y, 0, none⟩)] 31)).alloc (.cells #[.int .i64 7, .int .i64 s, .int .i64 o, .int .i64 n] 33)).cell? ⟨w.heap.size, 0, none⟩ = some (.pointer (some ⟨x, 0, none⟩)) := by go_simp
  have c01 : (((w.alloc (.cells #[.pointer (some ⟨x, 0, none⟩), .pointer (some ⟨y, 0, none⟩)] 31)).alloc (.cells #[.pointer (some ⟨x, 0, none⟩), .pointer (some ⟨y, 0, none⟩)] 31)).alloc (.cells #[.int .i64 7, .int .i64 s, .int .i64 o, .int .i64 n] 33)).cell? ⟨w.heap.size, 1, none⟩ = some (.pointer (some ⟨y, 0, none⟩)) := by go_simp
  have c10 : (((w.alloc (.cells #[.pointer (some ⟨x, 0, none⟩), .pointer (some ⟨y, 0, none⟩)] 31)).alloc (.cells #[.pointer (some ⟨x, 0, none⟩), .pointer (some ⟨y, 0, none⟩)] 31)).alloc (.cells #[.int .i64 7, .int .i64 s, .int .i64 o, .int .i64 n] 33)).cell? ⟨w.heap.size + 1, 0, none⟩ = some (.pointer (some ⟨x, 0, none⟩)) := by go_simp
  have c11 : (((w.alloc (.cells #[.pointer (some ⟨x, 0, none⟩), .pointer (some ⟨y, 0, none⟩)] 31)).alloc (.cells #[.pointer (some ⟨x, 0, none⟩), .pointer (some ⟨y, 0, none⟩)] 31)).alloc (.cells #[.int .i64 7, .int .i64 s, .int .i64 o, .int .i64 n] 33)).cell? ⟨w.heap.size + 1, 1, none⟩ = some (.pointer (some ⟨y, 0, none⟩)) := by go_simp
  have hsz : w.heap.size + 1 < (((w.alloc (.cells #[.pointer (some ⟨x, 0, none⟩), .pointer (some ⟨y, 0, none⟩)] 31)).alloc (.cells #[.pointer (some ⟨x, 0, none⟩), .pointer (some ⟨y, 0, none⟩)] 31)).alloc (.cells #[.int .i64 7, .int .i64 s, .int .i64 o, .int .i64 n] 33)).heap.size := by simp
  go_enter Try.func13, Try.ntmps13
  go_wp2
  generalize (((w.alloc (.cells #[.pointer (some ⟨x, 0, none⟩), .pointer (some ⟨y, 0, none⟩)] 31)).alloc (.cells #[.pointer (some ⟨x, 0, none⟩), .pointer (some ⟨y, 0, none⟩)] 31)).alloc (.cells #[.int .i64 7, .int .i64 s, .int .i64 o, .int .i64 n] 33)) = W at *
  generalize w.heap.size = b at *
  have hP1 := hP.drewN 1
  have Hg : Hid (∀ j, Rrow ao j → ¬ j = g) := fun j hj e => ne2 (e ▸ hj)
  go_region_held3 (fun w' => w'.cell? ⟨b, 0, none⟩ = some (.pointer (some ⟨x, 0, none⟩)) ∧ w'.cell? ⟨b, 1, none⟩ = some (.pointer (some ⟨y, 0, none⟩)) ∧ w'.cell? ⟨b + 1, 0, none⟩ = some (.pointer (some ⟨x, 0, none⟩)) ∧ w'.cell? ⟨b + 1, 1, none⟩ = some (.pointer (some ⟨y, 0, none⟩))) (first | go_keep | exact ⟨m0, m1, m2, m3⟩ | exact ⟨k0, k1, k2, k3⟩) ((first | (go_at_call 45; refine (Hr.out w1 hR1).mono ?_; rintro e w2 ⟨rfl, hR2, t2⟩; have hB2 := hB1.kept t2 ne3 ne2; have m0 := (t2.cell (p := ⟨b, 0, none⟩) (show b < w1.heap.size by omega) (fun q => Nat.lt_irrefl _ (hap b q).2.2)).trans k0; have m1 := (t2.cell (p := ⟨b, 1, none⟩) (show b < w1.heap.size by omega) (fun q => Nat.lt_irrefl _ (hap b q).2.2)).trans k1; have m2 := (t2.cell (p := ⟨b + 1, 0, none⟩) (show b + 1 < w1.heap.size by omega) (fun q => absurd (hap (b + 1) q).2.2 (by omega))).trans k2; have m3 := (t2.cell (p := ⟨b + 1, 1, none⟩) (show b + 1 < w1.heap.size by omega) (fun q => absurd (hap (b + 1) q).2.2 (by omega))).trans k3) | (go_at_call 33; refine (Ha.out W.drew hP1.b).mono ?_; rintro e w1 ⟨rfl, hB1, t1⟩; have hs1 : W.heap.size ≤ w1.heap.size := t1.size; have hR1 := hP1.r.kept t1 (fun q => ne1 q.symm) Hg.out; have k0 := (t1.cell (p := ⟨b, 0, none⟩) (show b < W.heap.size by omega) (show ¬ b = g by omega)).trans c00; have k1 := (t1.cell (p := ⟨b, 1, none⟩) (show b < W.heap.size by omega) (show ¬ b = g by omega)).trans c01; have k2 := (t1.cell (p := ⟨b + 1, 0, none⟩) (show b + 1 < W.heap.size by omega) (show ¬ b + 1 = g by omega)).trans c10; have k3 := (t1.cell (p := ⟨b + 1, 1, none⟩) (show b + 1 < W.heap.size by omega) (show ¬ b + 1 = g by omega)).trans c11)))
  go_wp2
  go_ret
  exact ⟨rfl, _, ⟨hB2, hR2⟩, (tW.trans (((Turn.refl (Two g ao) W).drew).trans (t1.mono (fun _ _ q => .inl q)))).trans (t2.mono (fun _ _ q => .inr q))⟩
set_option maxHeartbeats 2000000 in
set_option maxRecDepth 100000 in
theorem two_less_two (x g R B0 y : Nat) (ao : Option Addr) (cap : Nat) (p : Nat → Bool) (s o n : Int) (w : World) (h : Pr x g R B0 y ao cap p w) (x2 g2 R2 B2 y2 : Nat) (ao2 : Option Addr) (cap2 : Nat) (q : Nat → Bool) (hQ : Pr x2 g2 R2 B2 y2 ao2 cap2 q w) (hne : g2 ≠ g) (hrr : ∀ j, Rrow ao2 j → ¬ Rrow ao j) :
    Calls Try.prog 13 #[.agg #[.pointer (some ⟨x, 0, none⟩), .pointer (some ⟨y, 0, none⟩)], .agg #[.pointer (some ⟨x2, 0, none⟩), .pointer (some ⟨y2, 0, none⟩)], .agg #[.int .i64 7, .int .i64 s, .int .i64 o, .int .i64 n]] w fun e w' => e = .returned (.bool true) ∧ ∃ p', Pr x g R B0 y ao cap p' w' ∧ Turn (Two g ao) w w' := by
  have hP := h.kept ((((Turn.refl (fun _ => False) w).alloc (.cells #[.pointer (some ⟨x, 0, none⟩), .pointer (some ⟨y, 0, none⟩)] 31)).alloc (.cells #[.pointer (some ⟨x2, 0, none⟩), .pointer (some ⟨y2, 0, none⟩)] 31)).alloc (.cells #[.int .i64 7, .int .i64 s, .int .i64 o, .int .i64 n] 33)) (fun q => q) (fun q => q) (fun q => q) (fun _ _ q => q)
  have tW : Turn (Two g ao) w (((w.alloc (.cells #[.pointer (some ⟨x, 0, none⟩), .pointer (some ⟨y, 0, none⟩)] 31)).alloc (.cells #[.pointer (some ⟨x2, 0, none⟩), .pointer (some ⟨y2, 0, none⟩)] 31)).alloc (.cells #[.int .i64 7, .int .i64 s, .int .i64 o, .int .i64 n] 33)) := (((Turn.refl _ w).alloc _).alloc _).alloc _
  have hQW := hQ.kept ((((Turn.refl (fun _ => False) w).alloc (.cells #[.pointer (some ⟨x, 0, none⟩), .pointer (some ⟨y, 0, none⟩)] 31)).alloc (.cells #[.pointer (some ⟨x2, 0, none⟩), .pointer (some ⟨y2, 0, none⟩)] 31)).alloc (.cells #[.int .i64 7, .int .i64 s, .int .i64 o, .int .i64 n] 33)) (fun q => q) (fun q => q) (fun q => q) (fun _ _ q => q)
  obtain ⟨me1, me2, me3⟩ := h.b.rs_ne hQ.r
  have hgl := h.b.ltg
  have hap := h.r.apart
  obtain ⟨ne1, ne2, ne3⟩ := h.b.rs_ne h.r
  have Ha := hide' (fun w h h2 => less_two x g R x2 g2 R2 p q w h h2 hne)
  have Hr := hide' (fun w (h : Rs B0 y ao cap R p w) (h2 : Rs B2 y2 ao2 cap2 R2 q w) => rless_two h h2)
  clear h
  generalize B.laid bLess R p q = P at *
  generalize B.chg p P (nw R) = bb at *
  have ebb : (bb == bb) = true := by simp
  have c00 : (((w.alloc (.cells #[.pointer (some ⟨x, 0, none⟩), .pointer (some ⟨y, 0, none⟩)] 31)).alloc (.cells #[.pointer (some ⟨x2, 0, none⟩), .pointer (some ⟨y2, 0, none⟩)] 31)).alloc (.cells #[.int .i64 7, .int .i64 s, .int .i64 o, .int .i64 n] 33)).cell? ⟨w.heap.size, 0, none⟩ = some (.pointer (some ⟨x, 0, none⟩)) := by go_simp
  have c01 : (((w.alloc (.cells #[.pointer (some ⟨x, 0, none⟩), .pointer (some ⟨y, 0, none⟩)] 31)).alloc (.cells #[.pointer (some ⟨x2, 0, none⟩), .pointer (some ⟨y2, 0, none⟩)] 31)).alloc (.cells #[.int .i64 7, .int .i64 s, .int .i64 o, .int .i64 n] 33)).cell? ⟨w.heap.size, 1, none⟩ = some (.pointer (some ⟨y, 0, none⟩)) := by go_simp
  have c10 : (((w.alloc (.cells #[.pointer (some ⟨x, 0, none⟩), .pointer (some ⟨y, 0, none⟩)] 31)).alloc (.cells #[.pointer (some ⟨x2, 0, none⟩), .pointer (some ⟨y2, 0, none⟩)] 31)).alloc (.cells #[.int .i64 7, .int .i64 s, .int .i64 o, .int .i64 n] 33)).cell? ⟨w.heap.size + 1, 0, none⟩ = some (.pointer (some ⟨x2, 0, none⟩)) := by go_simp
  have c11 : (((w.alloc (.cells #[.pointer (some ⟨x, 0, none⟩), .pointer (some ⟨y, 0, none⟩)] 31)).alloc (.cells #[.pointer (some ⟨x2, 0, none⟩), .pointer (some ⟨y2, 0, none⟩)] 31)).alloc (.cells #[.int .i64 7, .int .i64 s, .int .i64 o, .int .i64 n] 33)).cell? ⟨w.heap.size + 1, 1, none⟩ = some (.pointer (some ⟨y2, 0, none⟩)) := by go_simp
  have hsz : w.heap.size + 1 < (((w.alloc (.cells #[.pointer (some ⟨x, 0, none⟩), .pointer (some ⟨y, 0, none⟩)] 31)).alloc (.cells #[.pointer (some ⟨x2, 0, none⟩), .pointer (some ⟨y2, 0, none⟩)] 31)).alloc (.cells #[.int .i64 7, .int .i64 s, .int .i64 o, .int .i64 n] 33)).heap.size := by simp
  go_enter Try.func13, Try.ntmps13
  go_wp2
  generalize (((w.alloc (.cells #[.pointer (some ⟨x, 0, none⟩), .pointer (some ⟨y, 0, none⟩)] 31)).alloc (.cells #[.pointer (some ⟨x2, 0, none⟩), .pointer (some ⟨y2, 0, none⟩)] 31)).alloc (.cells #[.int .i64 7, .int .i64 s, .int .i64 o, .int .i64 n] 33)) = W at *
  generalize w.heap.size = b at *
  have hP1 := hP.drewN 1
  have hQ1 := hQW.drewN 1
  have Hg2 : Hid (∀ j, Rrow ao2 j → ¬ j = g) := fun j hj e => me2 (e ▸ hj)
  have Hg : Hid (∀ j, Rrow ao j → ¬ j = g) := fun j hj e => ne2 (e ▸ hj)
  go_region_held3 (fun w' => w'.cell? ⟨b, 0, none⟩ = some (.pointer (some ⟨x, 0, none⟩)) ∧ w'.cell? ⟨b, 1, none⟩ = some (.pointer (some ⟨y, 0, none⟩)) ∧ w'.cell? ⟨b + 1, 0, none⟩ = some (.pointer (some ⟨x2, 0, none⟩)) ∧ w'.cell? ⟨b + 1, 1, none⟩ = some (.pointer (some ⟨y2, 0, none⟩))) (first | go_keep | exact ⟨m0, m1, m2, m3⟩ | exact ⟨k0, k1, k2, k3⟩) ((first | (go_at_call 45; refine (Hr.out w1 hR1 hQ2).mono ?_; rintro e w2 ⟨rfl, hR2, t2⟩; have hB2 := hB1.kept t2 ne3 ne2; have m0 := (t2.cell (p := ⟨b, 0, none⟩) (show b < w1.heap.size by omega) (fun q => Nat.lt_irrefl _ (hap b q).2.2)).trans k0; have m1 := (t2.cell (p := ⟨b, 1, none⟩) (show b < w1.heap.size by omega) (fun q => Nat.lt_irrefl _ (hap b q).2.2)).trans k1; have m2 := (t2.cell (p := ⟨b + 1, 0, none⟩) (show b + 1 < w1.heap.size by omega) (fun q => absurd (hap (b + 1) q).2.2 (by omega))).trans k2; have m3 := (t2.cell (p := ⟨b + 1, 1, none⟩) (show b + 1 < w1.heap.size by omega) (fun q => absurd (hap (b + 1) q).2.2 (by omega))).trans k3) | (go_at_call 33; refine (Ha.out W.drew hP1.b hQ1.b).mono ?_; rintro e w1 ⟨rfl, hB1, t1⟩; have hs1 : W.heap.size ≤ w1.heap.size := t1.size; have hR1 := hP1.r.kept t1 (fun q => ne1 q.symm) Hg.out; have hQ2 := hQ1.r.kept t1 (fun q => me1 q.symm) Hg2.out; have k0 := (t1.cell (p := ⟨b, 0, none⟩) (show b < W.heap.size by omega) (show ¬ b = g by omega)).trans c00; have k1 := (t1.cell (p := ⟨b, 1, none⟩) (show b < W.heap.size by omega) (show ¬ b = g by omega)).trans c01; have k2 := (t1.cell (p := ⟨b + 1, 0, none⟩) (show b + 1 < W.heap.size by omega) (show ¬ b + 1 = g by omega)).trans c10; have k3 := (t1.cell (p := ⟨b + 1, 1, none⟩) (show b + 1 < W.heap.size by omega) (show ¬ b + 1 = g by omega)).trans c11)))
  go_wp2
  go_ret
  exact ⟨rfl, _, ⟨hB2, hR2⟩, (tW.trans (((Turn.refl (Two g ao) W).drew).trans (t1.mono (fun _ _ q => .inl q)))).trans (t2.mono (fun _ _ q => .inr q))⟩
set_option maxHeartbeats 2000000 in
set_option maxRecDepth 100000 in
theorem two_none (x g R B0 y : Nat) (ao : Option Addr) (cap : Nat) (p : Nat → Bool) (v0 v1 : Option Addr) (t s o n : Int) (w : World) (h : Pr x g R B0 y ao cap p w) (h5 : (t == 5) = false) (h6 : (t == 6) = false) (h7 : (t == 7) = false) :
    Calls Try.prog 13 #[.agg #[.pointer (some ⟨x, 0, none⟩), .pointer (some ⟨y, 0, none⟩)], .agg #[.pointer v0, .pointer v1], .agg #[.int .i64 t, .int .i64 s, .int .i64 o, .int .i64 n]] w fun e w' => e = .returned (.bool true) ∧ ∃ p', Pr x g R B0 y ao cap p' w' ∧ Turn (Two g ao) w w' := by
  have hP : ∀ o1 o2 o3, Pr x g R B0 y ao cap p (((w.alloc o1).alloc o2).alloc o3) := fun o1 o2 o3 => h.kept ((((Turn.refl (fun _ => False) w).alloc o1).alloc o2).alloc o3) (fun q => q) (fun q => q) (fun q => q) (fun _ _ q => q)
  have HP := hide' hP
  clear h hP
  go_enter Try.func13, Try.ntmps13
  go_wp2
  go_ret
  exact ⟨rfl, p, HP.out _ _ _, (((Turn.refl _ w).alloc _).alloc _).alloc _⟩
/-- the other pair: none, the same, or another -/
def Oth (x g : Nat) (y : Nat) (ao : Option Addr) (v0 v1 : Option Addr) (w : World) : Prop :=
  (v0 = none ∧ v1 = none) ∨ (v0 = some ⟨x, 0, none⟩ ∧ v1 = some ⟨y, 0, none⟩) ∨ ∃ (x2 g2 R2 B2 y2 : Nat) (ao2 : Option Addr) (cap2 : Nat) (q : Nat → Bool), v0 = some ⟨x2, 0, none⟩ ∧ v1 = some ⟨y2, 0, none⟩ ∧ Pr x2 g2 R2 B2 y2 ao2 cap2 q w ∧ g2 ≠ g ∧ (∀ j, Rrow ao2 j → ¬ Rrow ao j)
theorem two_any (x g R B0 y : Nat) (ao : Option Addr) (cap : Nat) (p : Nat → Bool) (v0 v1 : Option Addr) (t s o n : Int) (w : World) (h : Pr x g R B0 y ao cap p w) (ho : Oth x g y ao v0 v1 w) :
    Calls Try.prog 13 #[.agg #[.pointer (some ⟨x, 0, none⟩), .pointer (some ⟨y, 0, none⟩)], .agg #[.pointer v0, .pointer v1], .agg #[.int .i64 t, .int .i64 s, .int .i64 o, .int .i64 n]] w fun e w' => e = .returned (.bool true) ∧ ∃ p', Pr x g R B0 y ao cap p' w' ∧ Turn (Two g ao) w w' := by
  by_cases e5 : t = 5
  · subst e5
    rcases ho with ⟨rfl, rfl⟩ | ⟨rfl, rfl⟩ | ⟨x2, g2, R2, B2, y2, ao2, cap2, q, rfl, rfl, hQ, hne, hrr⟩
    · exact two_join_nil x g R B0 y ao cap p s o n w h
    · exact two_join_self x g R B0 y ao cap p s o n w h
    · exact two_join_two x g R B0 y ao cap p s o n w h x2 g2 R2 B2 y2 ao2 cap2 q hQ hne hrr
  by_cases e6 : t = 6
  · subst e6
    rcases ho with ⟨rfl, rfl⟩ | ⟨rfl, rfl⟩ | ⟨x2, g2, R2, B2, y2, ao2, cap2, q, rfl, rfl, hQ, hne, hrr⟩
    · exact two_meet_nil x g R B0 y ao cap p s o n w h
    · exact two_meet_self x g R B0 y ao cap p s o n w h
    · exact two_meet_two x g R B0 y ao cap p s o n w h x2 g2 R2 B2 y2 ao2 cap2 q hQ hne hrr
  by_cases e7 : t = 7
  · subst e7
    rcases ho with ⟨rfl, rfl⟩ | ⟨rfl, rfl⟩ | ⟨x2, g2, R2, B2, y2, ao2, cap2, q, rfl, rfl, hQ, hne, hrr⟩
    · exact two_less_nil x g R B0 y ao cap p s o n w h
    · exact two_less_self x g R B0 y ao cap p s o n w h
    · exact two_less_two x g R B0 y ao cap p s o n w h x2 g2 R2 B2 y2 ao2 cap2 q hQ hne hrr
  exact two_none x g R B0 y ao cap p v0 v1 t s o n w h (by simpa using e5) (by simpa using e6) (by simpa using e7)
end Go.Proofs.Ytifbppjmdjdjbaa
