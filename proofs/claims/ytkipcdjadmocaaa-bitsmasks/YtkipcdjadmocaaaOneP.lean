import Derived.Test.YtkipcdjadmocaaaRef5
import Derived.Test.YtkipcdjadmocaaaOps3
set_option linter.unusedVariables false
set_option linter.unusedSimpArgs false
namespace Go.Proofs.Ytkipcdjadmocaaa
open Go.RowKit
set_option maxHeartbeats 1000000 in
theorem at_any (i : Int) (n : Nat) (w : World) (hn : 0 < n) (hm : (n : Int) ≤ 9223372036854775807) (hi : -9223372036854775808 ≤ i ∧ i ≤ 9223372036854775807) : Calls Try.prog 11 #[.int .i64 i, .int .i64 (n : Nat)] w fun e w' => e = .returned (.int .i64 (i % (n : Int))) ∧ w' = w := by
  have h1 := Int.emod_nonneg i (show (n : Int) ≠ 0 by omega)
  have h2 := Int.emod_lt_of_pos i (show (0 : Int) < (n : Int) by omega)
  have hz : ((n : Int) == 0) = false := by simp; omega
  have hz2 : ¬ (n : Int) = 0 := by omega
  by_cases h : 0 ≤ i
  · have ht : i.tmod (n : Int) = i % (n : Int) := Int.tmod_eq_emod_of_nonneg h
    generalize i % (n : Int) = r at *
    have e1 : ¬ r < 0 := by omega
    have hw : IntKind.i64.wrap r = r := by rw [IntKind.wrap_i64]; omega
    go_enter Try.func11, Try.ntmps11
    go_wp2
    go_ret
    exact ⟨rfl, rfl⟩
  · have ht : i.tmod (n : Int) = if i % (n : Int) = 0 then 0 else i % (n : Int) - (n : Int) := by
      have hd := Int.tmod_eq_emod (a := i) (b := (n : Int))
      rw [hd]
      by_cases hdv : (n : Int) ∣ i
      · have h0 := Int.emod_eq_zero_of_dvd hdv
        rw [if_pos (.inr hdv), h0]; simp
      · have h0 : ¬ i % (n : Int) = 0 := fun q => hdv (Int.dvd_of_emod_eq_zero q)
        rw [if_neg (by intro q; rcases q with q | q; exact h q; exact hdv q), if_neg h0]
        simp
    generalize i % (n : Int) = r at *
    by_cases hr : r = 0
    · subst hr
      simp only [if_true] at ht
      go_enter Try.func11, Try.ntmps11
      go_wp2
      go_ret
      exact ⟨rfl, rfl⟩
    · rw [if_neg hr] at ht
      have e1 : r - (n : Int) < 0 := by omega
      have hw : IntKind.i64.wrap (r - (n : Int)) = r - (n : Int) := by rw [IntKind.wrap_i64]; omega
      have hq : r - (n : Int) + (n : Int) = r := by omega
      go_enter Try.func11, Try.ntmps11
      go_wp2
      go_ret
      exact ⟨ret_int (by first | rfl | omega), rfl⟩
/-- what a pair's calls may turn -/
def Two (g : Nat) (ao : Option Addr) (j : Nat) : Prop := j = g ∨ Rrow ao j
theorem Bs.rs_ne {x g R : Nat} {p : Nat → Bool} {B0 y : Nat} {ao : Option Addr} {cap R2 : Nat} {q : Nat → Bool} {w : World} (a : Bs x g R p w) (b : Rs B0 y ao cap R2 q w) : g ≠ y ∧ ¬ Rrow ao g ∧ ¬ Rrow ao x := by
  refine ⟨fun e => ?_, ?_, ?_⟩
  · have h1 := b.hx; rw [← e, a.hg] at h1; simp at h1
  · rintro ⟨c, hc, e⟩
    rcases b.row.2 with ⟨hv, h0⟩ | ⟨g2, cap', cur, hv, hb, hg, _⟩
    · rw [hc] at hv; cases hv
    · rw [hc] at hv
      simp only [Value.slice.injEq, Option.some.injEq] at hv
      obtain ⟨rfl, _⟩ := hv
      have e' : g = g2 := e
      have h1 := a.hg; rw [e', hg] at h1; simp at h1
  · rintro ⟨c, hc, e⟩
    rcases b.row.2 with ⟨hv, h0⟩ | ⟨g2, cap', cur, hv, hb, hg, _⟩
    · rw [hc] at hv; cases hv
    · rw [hc] at hv
      simp only [Value.slice.injEq, Option.some.injEq] at hv
      obtain ⟨rfl, _⟩ := hv
      have e' : x = g2 := e
      have h1 := a.hx; rw [e', hg] at h1; simp at h1
/-- a pair that is alike -/
structure Pr (x g R : Nat) (B0 y : Nat) (ao : Option Addr) (cap : Nat) (p : Nat → Bool) (w : World) : Prop where
  b : Bs x g R p w
  r : Rs B0 y ao cap R p w
theorem Pr.kept {S : Nat → Prop} {x g R B0 y : Nat} {ao : Option Addr} {cap : Nat} {p : Nat → Bool} {w w' : World} (h : Pr x g R B0 y ao cap p w) (t : Turn S w w') (h1 : ¬ S x) (h2 : ¬ S g) (h3 : ¬ S y) (h4 : ∀ j, Rrow ao j → ¬ S j) : Pr x g R B0 y ao cap p w' := ⟨h.b.kept t h1 h2, h.r.kept t h3 h4⟩
theorem Pr.drewN {x g R B0 y : Nat} {ao : Option Addr} {cap : Nat} {p : Nat → Bool} {w : World} (h : Pr x g R B0 y ao cap p w) (n : Nat) : Pr x g R B0 y ao cap p (w.drewN n) := ⟨h.b.drewN n, h.r.drewN n⟩
theorem one_add1 (x g R : Nat) (p : Nat → Bool) (n : Int) (w : World) (h : Bs x g R p w) : Calls Try.prog 28 #[.pointer (some ⟨x, 0, none⟩), .int .i64 n] w fun e w' => e = .returned (.bool (fitB R n && !hasB p n)) ∧ Bs x g R (addP R p n) w' ∧ Turn (fun j => j = g) w w' := add_gen x g R p n w h
theorem one_add2 (B0 y : Nat) (ao : Option Addr) (cap R : Nat) (p : Nat → Bool) (n : Int) (w : World) (h : Rs B0 y ao cap R p w) : Calls Try.prog 37 #[.pointer (some ⟨y, 0, none⟩), .int .i64 n] w fun e w' => e = .returned (.bool (fitB R n && !hasB p n)) ∧ Rs B0 y ao cap R (addP R p n) w' ∧ Turn (Rrow ao) w w' := radd_any n h
set_option maxHeartbeats 2000000 in
set_option maxRecDepth 100000 in
theorem one_add (x g R B0 y : Nat) (ao : Option Addr) (cap : Nat) (p : Nat → Bool) (s o n : Int) (w : World) (h : Pr x g R B0 y ao cap p w) :
    Calls Try.prog 12 #[.agg #[.pointer (some ⟨x, 0, none⟩), .pointer (some ⟨y, 0, none⟩)], .agg #[.int .i64 1, .int .i64 s, .int .i64 o, .int .i64 n]] w fun e w' => e = .returned (.bool true) ∧ ∃ p', Pr x g R B0 y ao cap p' w' ∧ Turn (Two g ao) w w' := by
  have hP := h.kept (((Turn.refl (fun _ => False) w).alloc (.cells #[.pointer (some ⟨x, 0, none⟩), .pointer (some ⟨y, 0, none⟩)] 31)).alloc (.cells #[.int .i64 1, .int .i64 s, .int .i64 o, .int .i64 n] 33)) (fun q => q) (fun q => q) (fun q => q) (fun _ _ q => q)
  have tW : Turn (Two g ao) w ((w.alloc (.cells #[.pointer (some ⟨x, 0, none⟩), .pointer (some ⟨y, 0, none⟩)] 31)).alloc (.cells #[.int .i64 1, .int .i64 s, .int .i64 o, .int .i64 n] 33)) := ((Turn.refl _ w).alloc _).alloc _
  have hgl := h.b.ltg
  have hap := h.r.apart
  obtain ⟨ne1, ne2, ne3⟩ := h.b.rs_ne h.r
  have hyl := h.r.lt
  have Ha := hide' (fun w h => one_add1 x g R p n w h)
  have Hr := hide' (fun w h => one_add2 B0 y ao cap R p n w h)
  clear h
  have ebb : ∀ b : Bool, (b == b) = true := by simp
  have eii : ∀ i : Int, (i == i) = true := by simp
  have c20 : ((w.alloc (.cells #[.pointer (some ⟨x, 0, none⟩), .pointer (some ⟨y, 0, none⟩)] 31)).alloc (.cells #[.int .i64 1, .int .i64 s, .int .i64 o, .int .i64 n] 33)).cell? ⟨w.heap.size, 0, none⟩ = some (.pointer (some ⟨x, 0, none⟩)) := by go_simp
  have c21 : ((w.alloc (.cells #[.pointer (some ⟨x, 0, none⟩), .pointer (some ⟨y, 0, none⟩)] 31)).alloc (.cells #[.int .i64 1, .int .i64 s, .int .i64 o, .int .i64 n] 33)).cell? ⟨w.heap.size, 1, none⟩ = some (.pointer (some ⟨y, 0, none⟩)) := by go_simp
  have c33 : ((w.alloc (.cells #[.pointer (some ⟨x, 0, none⟩), .pointer (some ⟨y, 0, none⟩)] 31)).alloc (.cells #[.int .i64 1, .int .i64 s, .int .i64 o, .int .i64 n] 33)).cell? ⟨w.heap.size + 1, 3, none⟩ = some (.int .i64 n) := by go_simp
  have hsz : w.heap.size + 1 < ((w.alloc (.cells #[.pointer (some ⟨x, 0, none⟩), .pointer (some ⟨y, 0, none⟩)] 31)).alloc (.cells #[.int .i64 1, .int .i64 s, .int .i64 o, .int .i64 n] 33)).heap.size := by simp
  generalize (fitB R n && !hasB p n) = bb at *
  have ebb2 := ebb bb
  go_enter Try.func12, Try.ntmps12
  go_wp2
  generalize ((w.alloc (.cells #[.pointer (some ⟨x, 0, none⟩), .pointer (some ⟨y, 0, none⟩)] 31)).alloc (.cells #[.int .i64 1, .int .i64 s, .int .i64 o, .int .i64 n] 33)) = W at *
  generalize w.heap.size = b at *
  have hP1 := hP.drewN 1
  have Hg : Hid (∀ j, Rrow ao j → ¬ j = g) := fun j hj e => ne2 (e ▸ hj)
  go_region_held3 (fun w' => w'.cell? ⟨b, 0, none⟩ = some (.pointer (some ⟨x, 0, none⟩)) ∧ w'.cell? ⟨b, 1, none⟩ = some (.pointer (some ⟨y, 0, none⟩)) ∧ w'.cell? ⟨b + 1, 3, none⟩ = some (.int .i64 n)) (first | go_keep | exact ⟨m0, m1, m3⟩ | exact ⟨k0, k1, k3⟩) ((first | (go_at_call 37; refine (Hr.out w1 hR1).mono ?_; rintro e w2 ⟨rfl, hR2, t2⟩; have hB2 := hB1.kept t2 ne3 ne2; have m0 := (t2.cell (p := ⟨b, 0, none⟩) (show b < w1.heap.size by omega) (fun q => Nat.lt_irrefl _ (hap b q).2.2)).trans k0; have m1 := (t2.cell (p := ⟨b, 1, none⟩) (show b < w1.heap.size by omega) (fun q => Nat.lt_irrefl _ (hap b q).2.2)).trans k1; have m3 := (t2.cell (p := ⟨b + 1, 3, none⟩) (show b + 1 < w1.heap.size by omega) (fun q => absurd (hap (b + 1) q).2.2 (by omega))).trans k3) | (go_at_call 28; refine (Ha.out W.drew hP1.b).mono ?_; rintro e w1 ⟨rfl, hB1, t1⟩; have hs1 : W.heap.size ≤ w1.heap.size := t1.size; have hR1 := hP1.r.kept t1 (fun q => ne1 q.symm) Hg.out; have k0 := (t1.cell (p := ⟨b, 0, none⟩) (show b < W.heap.size by omega) (show ¬ b = g by omega)).trans c20; have k1 := (t1.cell (p := ⟨b, 1, none⟩) (show b < W.heap.size by omega) (show ¬ b = g by omega)).trans c21; have k3 := (t1.cell (p := ⟨b + 1, 3, none⟩) (show b + 1 < W.heap.size by omega) (show ¬ b + 1 = g by omega)).trans c33)))
  go_wp2
  go_ret
  exact ⟨rfl, _, ⟨hB2, hR2⟩, (tW.trans (((Turn.refl (Two g ao) W).drew).trans (t1.mono (fun _ _ q => .inl q)))).trans (t2.mono (fun _ _ q => .inr q))⟩
theorem one_drop1 (x g R : Nat) (p : Nat → Bool) (n : Int) (w : World) (h : Bs x g R p w) : Calls Try.prog 27 #[.pointer (some ⟨x, 0, none⟩), .int .i64 n] w fun e w' => e = .returned (.bool (hasB p n)) ∧ Bs x g R (dropP p n) w' ∧ Turn (fun j => j = g) w w' := drop_gen x g R p n w h
theorem one_drop2 (B0 y : Nat) (ao : Option Addr) (cap R : Nat) (p : Nat → Bool) (n : Int) (w : World) (h : Rs B0 y ao cap R p w) : Calls Try.prog 38 #[.pointer (some ⟨y, 0, none⟩), .int .i64 n] w fun e w' => e = .returned (.bool (hasB p n)) ∧ Rs B0 y ao cap R (dropP p n) w' ∧ Turn (Rrow ao) w w' := rdrop_any n h
set_option maxHeartbeats 2000000 in
set_option maxRecDepth 100000 in
theorem one_drop (x g R B0 y : Nat) (ao : Option Addr) (cap : Nat) (p : Nat → Bool) (s o n : Int) (w : World) (h : Pr x g R B0 y ao cap p w) :
    Calls Try.prog 12 #[.agg #[.pointer (some ⟨x, 0, none⟩), .pointer (some ⟨y, 0, none⟩)], .agg #[.int .i64 2, .int .i64 s, .int .i64 o, .int .i64 n]] w fun e w' => e = .returned (.bool true) ∧ ∃ p', Pr x g R B0 y ao cap p' w' ∧ Turn (Two g ao) w w' := by
  have hP := h.kept (((Turn.refl (fun _ => False) w).alloc (.cells #[.pointer (some ⟨x, 0, none⟩), .pointer (some ⟨y, 0, none⟩)] 31)).alloc (.cells #[.int .i64 2, .int .i64 s, .int .i64 o, .int .i64 n] 33)) (fun q => q) (fun q => q) (fun q => q) (fun _ _ q => q)
  have tW : Turn (Two g ao) w ((w.alloc (.cells #[.pointer (some ⟨x, 0, none⟩), .pointer (some ⟨y, 0, none⟩)] 31)).alloc (.cells #[.int .i64 2, .int .i64 s, .int .i64 o, .int .i64 n] 33)) := ((Turn.refl _ w).alloc _).alloc _
  have hgl := h.b.ltg
  have hap := h.r.apart
  obtain ⟨ne1, ne2, ne3⟩ := h.b.rs_ne h.r
  have hyl := h.r.lt
  have Ha := hide' (fun w h => one_drop1 x g R p n w h)
  have Hr := hide' (fun w h => one_drop2 B0 y ao cap R p n w h)
  clear h
  have ebb : ∀ b : Bool, (b == b) = true := by simp
  have eii : ∀ i : Int, (i == i) = true := by simp
  have c20 : ((w.alloc (.cells #[.pointer (some ⟨x, 0, none⟩), .pointer (some ⟨y, 0, none⟩)] 31)).alloc (.cells #[.int .i64 2, .int .i64 s, .int .i64 o, .int .i64 n] 33)).cell? ⟨w.heap.size, 0, none⟩ = some (.pointer (some ⟨x, 0, none⟩)) := by go_simp
  have c21 : ((w.alloc (.cells #[.pointer (some ⟨x, 0, none⟩), .pointer (some ⟨y, 0, none⟩)] 31)).alloc (.cells #[.int .i64 2, .int .i64 s, .int .i64 o, .int .i64 n] 33)).cell? ⟨w.heap.size, 1, none⟩ = some (.pointer (some ⟨y, 0, none⟩)) := by go_simp
  have c33 : ((w.alloc (.cells #[.pointer (some ⟨x, 0, none⟩), .pointer (some ⟨y, 0, none⟩)] 31)).alloc (.cells #[.int .i64 2, .int .i64 s, .int .i64 o, .int .i64 n] 33)).cell? ⟨w.heap.size + 1, 3, none⟩ = some (.int .i64 n) := by go_simp
  have hsz : w.heap.size + 1 < ((w.alloc (.cells #[.pointer (some ⟨x, 0, none⟩), .pointer (some ⟨y, 0, none⟩)] 31)).alloc (.cells #[.int .i64 2, .int .i64 s, .int .i64 o, .int .i64 n] 33)).heap.size := by simp
  generalize hasB p n = bb at *
  have ebb2 := ebb bb
  go_enter Try.func12, Try.ntmps12
  go_wp2
  generalize ((w.alloc (.cells #[.pointer (some ⟨x, 0, none⟩), .pointer (some ⟨y, 0, none⟩)] 31)).alloc (.cells #[.int .i64 2, .int .i64 s, .int .i64 o, .int .i64 n] 33)) = W at *
  generalize w.heap.size = b at *
  have hP1 := hP.drewN 1
  have Hg : Hid (∀ j, Rrow ao j → ¬ j = g) := fun j hj e => ne2 (e ▸ hj)
  go_region_held3 (fun w' => w'.cell? ⟨b, 0, none⟩ = some (.pointer (some ⟨x, 0, none⟩)) ∧ w'.cell? ⟨b, 1, none⟩ = some (.pointer (some ⟨y, 0, none⟩)) ∧ w'.cell? ⟨b + 1, 3, none⟩ = some (.int .i64 n)) (first | go_keep | exact ⟨m0, m1, m3⟩ | exact ⟨k0, k1, k3⟩) ((first | (go_at_call 38; refine (Hr.out w1 hR1).mono ?_; rintro e w2 ⟨rfl, hR2, t2⟩; have hB2 := hB1.kept t2 ne3 ne2; have m0 := (t2.cell (p := ⟨b, 0, none⟩) (show b < w1.heap.size by omega) (fun q => Nat.lt_irrefl _ (hap b q).2.2)).trans k0; have m1 := (t2.cell (p := ⟨b, 1, none⟩) (show b < w1.heap.size by omega) (fun q => Nat.lt_irrefl _ (hap b q).2.2)).trans k1; have m3 := (t2.cell (p := ⟨b + 1, 3, none⟩) (show b + 1 < w1.heap.size by omega) (fun q => absurd (hap (b + 1) q).2.2 (by omega))).trans k3) | (go_at_call 27; refine (Ha.out W.drew hP1.b).mono ?_; rintro e w1 ⟨rfl, hB1, t1⟩; have hs1 : W.heap.size ≤ w1.heap.size := t1.size; have hR1 := hP1.r.kept t1 (fun q => ne1 q.symm) Hg.out; have k0 := (t1.cell (p := ⟨b, 0, none⟩) (show b < W.heap.size by omega) (show ¬ b = g by omega)).trans c20; have k1 := (t1.cell (p := ⟨b, 1, none⟩) (show b < W.heap.size by omega) (show ¬ b = g by omega)).trans c21; have k3 := (t1.cell (p := ⟨b + 1, 3, none⟩) (show b + 1 < W.heap.size by omega) (show ¬ b + 1 = g by omega)).trans c33)))
  go_wp2
  go_ret
  exact ⟨rfl, _, ⟨hB2, hR2⟩, (tW.trans (((Turn.refl (Two g ao) W).drew).trans (t1.mono (fun _ _ q => .inl q)))).trans (t2.mono (fun _ _ q => .inr q))⟩
theorem one_has1 (x g R : Nat) (p : Nat → Bool) (n : Int) (w : World) (h : Bs x g R p w) : Calls Try.prog 26 #[.pointer (some ⟨x, 0, none⟩), .int .i64 n] w fun e w' => e = .returned (.bool (hasB p n)) ∧ Bs x g R (p) w' ∧ Turn (fun j => j = g) w w' := (has_any x g R p n w h).mono (fun e w' ⟨he, m, hm⟩ => ⟨he, by rw [hm]; exact h.drewN m, by rw [hm]; exact (Turn.refl _ w).drewN m⟩)
theorem one_has2 (B0 y : Nat) (ao : Option Addr) (cap R : Nat) (p : Nat → Bool) (n : Int) (w : World) (h : Rs B0 y ao cap R p w) : Calls Try.prog 39 #[.pointer (some ⟨y, 0, none⟩), .int .i64 n] w fun e w' => e = .returned (.bool (hasB p n)) ∧ Rs B0 y ao cap R (p) w' ∧ Turn (Rrow ao) w w' := (rhas_any n h).mono (fun e w' ⟨he, hm⟩ => ⟨he, by rw [hm]; exact h, by rw [hm]; exact Turn.refl _ w⟩)
set_option maxHeartbeats 2000000 in
set_option maxRecDepth 100000 in
theorem one_has (x g R B0 y : Nat) (ao : Option Addr) (cap : Nat) (p : Nat → Bool) (s o n : Int) (w : World) (h : Pr x g R B0 y ao cap p w) :
    Calls Try.prog 12 #[.agg #[.pointer (some ⟨x, 0, none⟩), .pointer (some ⟨y, 0, none⟩)], .agg #[.int .i64 3, .int .i64 s, .int .i64 o, .int .i64 n]] w fun e w' => e = .returned (.bool true) ∧ ∃ p', Pr x g R B0 y ao cap p' w' ∧ Turn (Two g ao) w w' := by
  have hP := h.kept (((Turn.refl (fun _ => False) w).alloc (.cells #[.pointer (some ⟨x, 0, none⟩), .pointer (some ⟨y, 0, none⟩)] 31)).alloc (.cells #[.int .i64 3, .int .i64 s, .int .i64 o, .int .i64 n] 33)) (fun q => q) (fun q => q) (fun q => q) (fun _ _ q => q)
  have tW : Turn (Two g ao) w ((w.alloc (.cells #[.pointer (some ⟨x, 0, none⟩), .pointer (some ⟨y, 0, none⟩)] 31)).alloc (.cells #[.int .i64 3, .int .i64 s, .int .i64 o, .int .i64 n] 33)) := ((Turn.refl _ w).alloc _).alloc _
  have hgl := h.b.ltg
  have hap := h.r.apart
  obtain ⟨ne1, ne2, ne3⟩ := h.b.rs_ne h.r
  have hyl := h.r.lt
  have Ha := hide' (fun w h => one_has1 x g R p n w h)
  have Hr := hide' (fun w h => one_has2 B0 y ao cap R p n w h)
  clear h
  have ebb : ∀ b : Bool, (b == b) = true := by simp
  have eii : ∀ i : Int, (i == i) = true := by simp
  have c20 : ((w.alloc (.cells #[.pointer (some ⟨x, 0, none⟩), .pointer (some ⟨y, 0, none⟩)] 31)).alloc (.cells #[.int .i64 3, .int .i64 s, .int .i64 o, .int .i64 n] 33)).cell? ⟨w.heap.size, 0, none⟩ = some (.pointer (some ⟨x, 0, none⟩)) := by go_simp
  have c21 : ((w.alloc (.cells #[.pointer (some ⟨x, 0, none⟩), .pointer (some ⟨y, 0, none⟩)] 31)).alloc (.cells #[.int .i64 3, .int .i64 s, .int .i64 o, .int .i64 n] 33)).cell? ⟨w.heap.size, 1, none⟩ = some (.pointer (some ⟨y, 0, none⟩)) := by go_simp
  have c33 : ((w.alloc (.cells #[.pointer (some ⟨x, 0, none⟩), .pointer (some ⟨y, 0, none⟩)] 31)).alloc (.cells #[.int .i64 3, .int .i64 s, .int .i64 o, .int .i64 n] 33)).cell? ⟨w.heap.size + 1, 3, none⟩ = some (.int .i64 n) := by go_simp
  have hsz : w.heap.size + 1 < ((w.alloc (.cells #[.pointer (some ⟨x, 0, none⟩), .pointer (some ⟨y, 0, none⟩)] 31)).alloc (.cells #[.int .i64 3, .int .i64 s, .int .i64 o, .int .i64 n] 33)).heap.size := by simp
  generalize hasB p n = bb at *
  have ebb2 := ebb bb
  go_enter Try.func12, Try.ntmps12
  go_wp2
  generalize ((w.alloc (.cells #[.pointer (some ⟨x, 0, none⟩), .pointer (some ⟨y, 0, none⟩)] 31)).alloc (.cells #[.int .i64 3, .int .i64 s, .int .i64 o, .int .i64 n] 33)) = W at *
  generalize w.heap.size = b at *
  have hP1 := hP.drewN 1
  have Hg : Hid (∀ j, Rrow ao j → ¬ j = g) := fun j hj e => ne2 (e ▸ hj)
  go_region_held3 (fun w' => w'.cell? ⟨b, 0, none⟩ = some (.pointer (some ⟨x, 0, none⟩)) ∧ w'.cell? ⟨b, 1, none⟩ = some (.pointer (some ⟨y, 0, none⟩)) ∧ w'.cell? ⟨b + 1, 3, none⟩ = some (.int .i64 n)) (first | go_keep | exact ⟨m0, m1, m3⟩ | exact ⟨k0, k1, k3⟩) ((first | (go_at_call 39; refine (Hr.out w1 hR1).mono ?_; rintro e w2 ⟨rfl, hR2, t2⟩; have hB2 := hB1.kept t2 ne3 ne2; have m0 := (t2.cell (p := ⟨b, 0, none⟩) (show b < w1.heap.size by omega) (fun q => Nat.lt_irrefl _ (hap b q).2.2)).trans k0; have m1 := (t2.cell (p := ⟨b, 1, none⟩) (show b < w1.heap.size by omega) (fun q => Nat.lt_irrefl _ (hap b q).2.2)).trans k1; have m3 := (t2.cell (p := ⟨b + 1, 3, none⟩) (show b + 1 < w1.heap.size by omega) (fun q => absurd (hap (b + 1) q).2.2 (by omega))).trans k3) | (go_at_call 26; refine (Ha.out W.drew hP1.b).mono ?_; rintro e w1 ⟨rfl, hB1, t1⟩; have hs1 : W.heap.size ≤ w1.heap.size := t1.size; have hR1 := hP1.r.kept t1 (fun q => ne1 q.symm) Hg.out; have k0 := (t1.cell (p := ⟨b, 0, none⟩) (show b < W.heap.size by omega) (show ¬ b = g by omega)).trans c20; have k1 := (t1.cell (p := ⟨b, 1, none⟩) (show b < W.heap.size by omega) (show ¬ b = g by omega)).trans c21; have k3 := (t1.cell (p := ⟨b + 1, 3, none⟩) (show b + 1 < W.heap.size by omega) (show ¬ b + 1 = g by omega)).trans c33)))
  go_wp2
  go_ret
  exact ⟨rfl, _, ⟨hB2, hR2⟩, (tW.trans (((Turn.refl (Two g ao) W).drew).trans (t1.mono (fun _ _ q => .inl q)))).trans (t2.mono (fun _ _ q => .inr q))⟩
theorem one_count1 (x g R : Nat) (p : Nat → Bool) (n : Int) (w : World) (h : Bs x g R p w) : Calls Try.prog 29 #[.pointer (some ⟨x, 0, none⟩)] w fun e w' => e = .returned (.int .i64 (B.cnt p R 0 : Nat)) ∧ Bs x g R (p) w' ∧ Turn (fun j => j = g) w w' := (count_any x g R p w h).mono (fun e w' ⟨he, hm⟩ => ⟨he, by rw [hm]; exact h, by rw [hm]; exact Turn.refl _ w⟩)
theorem one_count2 (B0 y : Nat) (ao : Option Addr) (cap R : Nat) (p : Nat → Bool) (n : Int) (w : World) (h : Rs B0 y ao cap R p w) : Calls Try.prog 40 #[.pointer (some ⟨y, 0, none⟩)] w fun e w' => e = .returned (.int .i64 (B.cnt p R 0 : Nat)) ∧ Rs B0 y ao cap R (p) w' ∧ Turn (Rrow ao) w w' := (rcount_any h).mono (fun e w' ⟨he, hm⟩ => ⟨he, h.below hm, turn_below' hm⟩)
set_option maxHeartbeats 2000000 in
set_option maxRecDepth 100000 in
theorem one_count (x g R B0 y : Nat) (ao : Option Addr) (cap : Nat) (p : Nat → Bool) (s o n : Int) (w : World) (h : Pr x g R B0 y ao cap p w) :
    Calls Try.prog 12 #[.agg #[.pointer (some ⟨x, 0, none⟩), .pointer (some ⟨y, 0, none⟩)], .agg #[.int .i64 4, .int .i64 s, .int .i64 o, .int .i64 n]] w fun e w' => e = .returned (.bool true) ∧ ∃ p', Pr x g R B0 y ao cap p' w' ∧ Turn (Two g ao) w w' := by
  have hP := h.kept (((Turn.refl (fun _ => False) w).alloc (.cells #[.pointer (some ⟨x, 0, none⟩), .pointer (some ⟨y, 0, none⟩)] 31)).alloc (.cells #[.int .i64 4, .int .i64 s, .int .i64 o, .int .i64 n] 33)) (fun q => q) (fun q => q) (fun q => q) (fun _ _ q => q)
  have tW : Turn (Two g ao) w ((w.alloc (.cells #[.pointer (some ⟨x, 0, none⟩), .pointer (some ⟨y, 0, none⟩)] 31)).alloc (.cells #[.int .i64 4, .int .i64 s, .int .i64 o, .int .i64 n] 33)) := ((Turn.refl _ w).alloc _).alloc _
  have hgl := h.b.ltg
  have hap := h.r.apart
  obtain ⟨ne1, ne2, ne3⟩ := h.b.rs_ne h.r
  have hyl := h.r.lt
  have Ha := hide' (fun w h => one_count1 x g R p n w h)
  have Hr := hide' (fun w h => one_count2 B0 y ao cap R p n w h)
  clear h
  have ebb : ∀ b : Bool, (b == b) = true := by simp
  have eii : ∀ i : Int, (i == i) = true := by simp
  have c20 : ((w.alloc (.cells #[.pointer (some ⟨x, 0, none⟩), .pointer (some ⟨y, 0, none⟩)] 31)).alloc (.cells #[.int .i64 4, .int .i64 s, .int .i64 o, .int .i64 n] 33)).cell? ⟨w.heap.size, 0, none⟩ = some (.pointer (some ⟨x, 0, none⟩)) := by go_simp
  have c21 : ((w.alloc (.cells #[.pointer (some ⟨x, 0, none⟩), .pointer (some ⟨y, 0, none⟩)] 31)).alloc (.cells #[.int .i64 4, .int .i64 s, .int .i64 o, .int .i64 n] 33)).cell? ⟨w.heap.size, 1, none⟩ = some (.pointer (some ⟨y, 0, none⟩)) := by go_simp
  have c33 : ((w.alloc (.cells #[.pointer (some ⟨x, 0, none⟩), .pointer (some ⟨y, 0, none⟩)] 31)).alloc (.cells #[.int .i64 4, .int .i64 s, .int .i64 o, .int .i64 n] 33)).cell? ⟨w.heap.size + 1, 3, none⟩ = some (.int .i64 n) := by go_simp
  have hsz : w.heap.size + 1 < ((w.alloc (.cells #[.pointer (some ⟨x, 0, none⟩), .pointer (some ⟨y, 0, none⟩)] 31)).alloc (.cells #[.int .i64 4, .int .i64 s, .int .i64 o, .int .i64 n] 33)).heap.size := by simp
  generalize B.cnt p R 0 = bb at *
  go_enter Try.func12, Try.ntmps12
  go_wp2
  generalize ((w.alloc (.cells #[.pointer (some ⟨x, 0, none⟩), .pointer (some ⟨y, 0, none⟩)] 31)).alloc (.cells #[.int .i64 4, .int .i64 s, .int .i64 o, .int .i64 n] 33)) = W at *
  generalize w.heap.size = b at *
  have hP1 := hP.drewN 1
  have Hg : Hid (∀ j, Rrow ao j → ¬ j = g) := fun j hj e => ne2 (e ▸ hj)
  go_region_held3 (fun w' => w'.cell? ⟨b, 0, none⟩ = some (.pointer (some ⟨x, 0, none⟩)) ∧ w'.cell? ⟨b, 1, none⟩ = some (.pointer (some ⟨y, 0, none⟩)) ∧ w'.cell? ⟨b + 1, 3, none⟩ = some (.int .i64 n)) (first | go_keep | exact ⟨m0, m1, m3⟩ | exact ⟨k0, k1, k3⟩) ((first | (go_at_call 40; refine (Hr.out w1 hR1).mono ?_; rintro e w2 ⟨rfl, hR2, t2⟩; have hB2 := hB1.kept t2 ne3 ne2; have m0 := (t2.cell (p := ⟨b, 0, none⟩) (show b < w1.heap.size by omega) (fun q => Nat.lt_irrefl _ (hap b q).2.2)).trans k0; have m1 := (t2.cell (p := ⟨b, 1, none⟩) (show b < w1.heap.size by omega) (fun q => Nat.lt_irrefl _ (hap b q).2.2)).trans k1; have m3 := (t2.cell (p := ⟨b + 1, 3, none⟩) (show b + 1 < w1.heap.size by omega) (fun q => absurd (hap (b + 1) q).2.2 (by omega))).trans k3) | (go_at_call 29; refine (Ha.out W.drew hP1.b).mono ?_; rintro e w1 ⟨rfl, hB1, t1⟩; have hs1 : W.heap.size ≤ w1.heap.size := t1.size; have hR1 := hP1.r.kept t1 (fun q => ne1 q.symm) Hg.out; have k0 := (t1.cell (p := ⟨b, 0, none⟩) (show b < W.heap.size by omega) (show ¬ b = g by omega)).trans c20; have k1 := (t1.cell (p := ⟨b, 1, none⟩) (show b < W.heap.size by omega) (show ¬ b = g by omega)).trans c21; have k3 := (t1.cell (p := ⟨b + 1, 3, none⟩) (show b + 1 < W.heap.size by omega) (show ¬ b + 1 = g by omega)).trans c33)))
  go_wp2
  go_ret
  exact ⟨rfl, _, ⟨hB2, hR2⟩, (tW.trans (((Turn.refl (Two g ao) W).drew).trans (t1.mono (fun _ _ q => .inl q)))).trans (t2.mono (fun _ _ q => .inr q))⟩
theorem one_room1 (x g R : Nat) (p : Nat → Bool) (n : Int) (w : World) (h : Bs x g R p w) : Calls Try.prog 24 #[.pointer (some ⟨x, 0, none⟩)] w fun e w' => e = .returned (.int .i64 (R : Nat)) ∧ Bs x g R (p) w' ∧ Turn (fun j => j = g) w w' := (room_any x g R p w h).mono (fun e w' ⟨he, hm⟩ => ⟨he, by rw [hm]; exact h, by rw [hm]; exact Turn.refl _ w⟩)
theorem one_room2 (B0 y : Nat) (ao : Option Addr) (cap R : Nat) (p : Nat → Bool) (n : Int) (w : World) (h : Rs B0 y ao cap R p w) : Calls Try.prog 41 #[.pointer (some ⟨y, 0, none⟩)] w fun e w' => e = .returned (.int .i64 (R : Nat)) ∧ Rs B0 y ao cap R (p) w' ∧ Turn (Rrow ao) w w' := (rroom_any h).mono (fun e w' ⟨he, hm⟩ => ⟨he, by rw [hm]; exact h, by rw [hm]; exact Turn.refl _ w⟩)
set_option maxHeartbeats 2000000 in
set_option maxRecDepth 100000 in
theorem one_room (x g R B0 y : Nat) (ao : Option Addr) (cap : Nat) (p : Nat → Bool) (s o n : Int) (w : World) (h : Pr x g R B0 y ao cap p w) :
    Calls Try.prog 12 #[.agg #[.pointer (some ⟨x, 0, none⟩), .pointer (some ⟨y, 0, none⟩)], .agg #[.int .i64 9, .int .i64 s, .int .i64 o, .int .i64 n]] w fun e w' => e = .returned (.bool true) ∧ ∃ p', Pr x g R B0 y ao cap p' w' ∧ Turn (Two g ao) w w' := by
  have hP := h.kept (((Turn.refl (fun _ => False) w).alloc (.cells #[.pointer (some ⟨x, 0, none⟩), .pointer (some ⟨y, 0, none⟩)] 31)).alloc (.cells #[.int .i64 9, .int .i64 s, .int .i64 o, .int .i64 n] 33)) (fun q => q) (fun q => q) (fun q => q) (fun _ _ q => q)
  have tW : Turn (Two g ao) w ((w.alloc (.cells #[.pointer (some ⟨x, 0, none⟩), .pointer (some ⟨y, 0, none⟩)] 31)).alloc (.cells #[.int .i64 9, .int .i64 s, .int .i64 o, .int .i64 n] 33)) := ((Turn.refl _ w).alloc _).alloc _
  have hgl := h.b.ltg
  have hap := h.r.apart
  obtain ⟨ne1, ne2, ne3⟩ := h.b.rs_ne h.r
  have hyl := h.r.lt
  have Ha := hide' (fun w h => one_room1 x g R p n w h)
  have Hr := hide' (fun w h => one_room2 B0 y ao cap R p n w h)
  clear h
  have ebb : ∀ b : Bool, (b == b) = true := by simp
  have eii : ∀ i : Int, (i == i) = true := by simp
  have c20 : ((w.alloc (.cells #[.pointer (some ⟨x, 0, none⟩), .pointer (some ⟨y, 0, none⟩)] 31)).alloc (.cells #[.int .i64 9, .int .i64 s, .int .i64 o, .int .i64 n] 33)).cell? ⟨w.heap.size, 0, none⟩ = some (.pointer (some ⟨x, 0, none⟩)) := by go_simp
  have c21 : ((w.alloc (.cells #[.pointer (some ⟨x, 0, none⟩), .pointer (some ⟨y, 0, none⟩)] 31)).alloc (.cells #[.int .i64 9, .int .i64 s, .int .i64 o, .int .i64 n] 33)).cell? ⟨w.heap.size, 1, none⟩ = some (.pointer (some ⟨y, 0, none⟩)) := by go_simp
  have c33 : ((w.alloc (.cells #[.pointer (some ⟨x, 0, none⟩), .pointer (some ⟨y, 0, none⟩)] 31)).alloc (.cells #[.int .i64 9, .int .i64 s, .int .i64 o, .int .i64 n] 33)).cell? ⟨w.heap.size + 1, 3, none⟩ = some (.int .i64 n) := by go_simp
  have hsz : w.heap.size + 1 < ((w.alloc (.cells #[.pointer (some ⟨x, 0, none⟩), .pointer (some ⟨y, 0, none⟩)] 31)).alloc (.cells #[.int .i64 9, .int .i64 s, .int .i64 o, .int .i64 n] 33)).heap.size := by simp
  have ebb2 := ebb true
  go_enter Try.func12, Try.ntmps12
  go_wp2
  generalize ((w.alloc (.cells #[.pointer (some ⟨x, 0, none⟩), .pointer (some ⟨y, 0, none⟩)] 31)).alloc (.cells #[.int .i64 9, .int .i64 s, .int .i64 o, .int .i64 n] 33)) = W at *
  generalize w.heap.size = b at *
  have hP1 := hP.drewN 1
  have Hg : Hid (∀ j, Rrow ao j → ¬ j = g) := fun j hj e => ne2 (e ▸ hj)
  go_region_held3 (fun w' => w'.cell? ⟨b, 0, none⟩ = some (.pointer (some ⟨x, 0, none⟩)) ∧ w'.cell? ⟨b, 1, none⟩ = some (.pointer (some ⟨y, 0, none⟩)) ∧ w'.cell? ⟨b + 1, 3, none⟩ = some (.int .i64 n)) (first | go_keep | exact ⟨m0, m1, m3⟩ | exact ⟨k0, k1, k3⟩) ((first | (go_at_call 41; refine (Hr.out w1 hR1).mono ?_; rintro e w2 ⟨rfl, hR2, t2⟩; have hB2 := hB1.kept t2 ne3 ne2; have m0 := (t2.cell (p := ⟨b, 0, none⟩) (show b < w1.heap.size by omega) (fun q => Nat.lt_irrefl _ (hap b q).2.2)).trans k0; have m1 := (t2.cell (p := ⟨b, 1, none⟩) (show b < w1.heap.size by omega) (fun q => Nat.lt_irrefl _ (hap b q).2.2)).trans k1; have m3 := (t2.cell (p := ⟨b + 1, 3, none⟩) (show b + 1 < w1.heap.size by omega) (fun q => absurd (hap (b + 1) q).2.2 (by omega))).trans k3) | (go_at_call 24; refine (Ha.out W.drew hP1.b).mono ?_; rintro e w1 ⟨rfl, hB1, t1⟩; have hs1 : W.heap.size ≤ w1.heap.size := t1.size; have hR1 := hP1.r.kept t1 (fun q => ne1 q.symm) Hg.out; have k0 := (t1.cell (p := ⟨b, 0, none⟩) (show b < W.heap.size by omega) (show ¬ b = g by omega)).trans c20; have k1 := (t1.cell (p := ⟨b, 1, none⟩) (show b < W.heap.size by omega) (show ¬ b = g by omega)).trans c21; have k3 := (t1.cell (p := ⟨b + 1, 3, none⟩) (show b + 1 < W.heap.size by omega) (show ¬ b + 1 = g by omega)).trans c33)))
  go_wp2
  go_ret
  exact ⟨rfl, _, ⟨hB2, hR2⟩, (tW.trans (((Turn.refl (Two g ao) W).drew).trans (t1.mono (fun _ _ q => .inl q)))).trans (t2.mono (fun _ _ q => .inr q))⟩
theorem eq_u64' (n : Nat) (a : Int) (w : World) : (Op.equalIn (n + 1) 63 (.int .u64 a) (.int .u64 a)).run Try.prog w = .ok true w := by
  simp only [Op.equalIn, Sem.run_bind, run_underlying Try.underlying63, Result.andThen_ok]
  simp
theorem eq_u64 (a : Int) (w : World) : (Op.equalIn 9999 63 (.int .u64 a) (.int .u64 a)).run Try.prog w = .ok true w := eq_u64' 9998 a w
theorem cells63 : Try.prog.cellsOf 63 = 1 := by kernel_rfl
theorem part4 (xs : Array Value) (j : Nat) (v : Value) (w : World) (h : xs[j]? = some v) : (part 63 xs j).run Try.prog w = .ok v w := run_part_plain (P := Try.prog) (e := 63) w (show Try.prog.plainKey 63 = true by kernel_rfl) h
theorem eq_four (a b c d : Int) (w : World) : (Op.equalIn 10000 64 (.agg #[.int .u64 a, .int .u64 b, .int .u64 c, .int .u64 d]) (.agg #[.int .u64 a, .int .u64 b, .int .u64 c, .int .u64 d])).run Try.prog w = .ok true w := by
  obtain ⟨i0, hi, hz0, hz1, hz2⟩ := info_parts info63
  show (Op.equalIn (9999 + 1) 64 _ _).run Try.prog w = .ok true w
  rw [run_equalIn_array (P := Try.prog) w 9999 (t := 64) (e := 63) (n := 4) (i := i0) _ _ Try.underlying64 hi, cells63, show List.range 4 = [0, 1, 2, 3] from rfl]
  have h0 := fun w => part4 #[.int .u64 a, .int .u64 b, .int .u64 c, .int .u64 d] 0 (.int .u64 a) w rfl
  have h1 := fun w => part4 #[.int .u64 a, .int .u64 b, .int .u64 c, .int .u64 d] 1 (.int .u64 b) w rfl
  have h2 := fun w => part4 #[.int .u64 a, .int .u64 b, .int .u64 c, .int .u64 d] 2 (.int .u64 c) w rfl
  have h3 := fun w => part4 #[.int .u64 a, .int .u64 b, .int .u64 c, .int .u64 d] 3 (.int .u64 d) w rfl
  simp only [Op.eqItems, Sem.run_bind, Nat.mul_one, h0, h1, h2, h3, Result.andThen_ok, eq_u64]
  simp [h0, h1, h2, h3, eq_u64]
set_option maxHeartbeats 2000000 in
set_option maxRecDepth 100000 in
theorem one_quad (x g R B0 y : Nat) (ao : Option Addr) (cap : Nat) (p : Nat → Bool) (s o n : Int) (w : World) (h : Pr x g R B0 y ao cap p w) :
    Calls Try.prog 12 #[.agg #[.pointer (some ⟨x, 0, none⟩), .pointer (some ⟨y, 0, none⟩)], .agg #[.int .i64 8, .int .i64 s, .int .i64 o, .int .i64 n]] w fun e w' => e = .returned (.bool true) ∧ ∃ p', Pr x g R B0 y ao cap p' w' ∧ Turn (Two g ao) w w' := by
  obtain ⟨A, bq, HA, HB⟩ : ∃ (A : Array Value) (bq : Bool), (∀ w, Bs x g R p w → Calls Try.prog 36 #[.pointer (some ⟨x, 0, none⟩), .int .i64 n] w fun e w' => e = .returned (.tuple #[.agg A, .bool bq]) ∧ Below w.heap.size w w') ∧ (∀ w, Rs B0 y ao cap R p w → Calls Try.prog 42 #[.pointer (some ⟨y, 0, none⟩), .int .i64 n] w fun e w' => e = .returned (.tuple #[.agg A, .bool bq]) ∧ Below w.heap.size w w') ∧ (∃ a b c d : Int, A = #[.int .u64 a, .int .u64 b, .int .u64 c, .int .u64 d]) := by
    by_cases hq : 0 ≤ n ∧ 256 * n < (R : Int)
    · obtain ⟨k, rfl⟩ : ∃ k : Nat, n = (k : Int) := ⟨n.toNat, by omega⟩
      exact ⟨four p k, true, fun w h => bigQuad_in x g R p k w h (by omega), fun w h => rquad_in k h (by omega), ⟨_, _, _, _, rfl⟩⟩
    · exact ⟨none4, false, fun w h => bigQuad_out x g R p n w h (by omega), fun w h => rquad_out n h (by omega), ⟨_, _, _, _, rfl⟩⟩
  obtain ⟨HB, a, b, c, d, rfl⟩ := HB
  have heq := eq_four a b c d
  have ebb : (bq == bq) = true := by simp
  have Ha := hide' HA
  have Hb := hide' HB
  have hP := h.kept (((Turn.refl (fun _ => False) w).alloc (.cells #[.pointer (some ⟨x, 0, none⟩), .pointer (some ⟨y, 0, none⟩)] 31)).alloc (.cells #[.int .i64 8, .int .i64 s, .int .i64 o, .int .i64 n] 33)) (fun q => q) (fun q => q) (fun q => q) (fun _ _ q => q)
  have tW : Turn (Two g ao) w ((w.alloc (.cells #[.pointer (some ⟨x, 0, none⟩), .pointer (some ⟨y, 0, none⟩)] 31)).alloc (.cells #[.int .i64 8, .int .i64 s, .int .i64 o, .int .i64 n] 33)) := ((Turn.refl _ w).alloc _).alloc _
  have c21 : ((w.alloc (.cells #[.pointer (some ⟨x, 0, none⟩), .pointer (some ⟨y, 0, none⟩)] 31)).alloc (.cells #[.int .i64 8, .int .i64 s, .int .i64 o, .int .i64 n] 33)).cell? ⟨w.heap.size, 1, none⟩ = some (.pointer (some ⟨y, 0, none⟩)) := by go_simp
  have c33 : ((w.alloc (.cells #[.pointer (some ⟨x, 0, none⟩), .pointer (some ⟨y, 0, none⟩)] 31)).alloc (.cells #[.int .i64 8, .int .i64 s, .int .i64 o, .int .i64 n] 33)).cell? ⟨w.heap.size + 1, 3, none⟩ = some (.int .i64 n) := by go_simp
  have hsz : w.heap.size + 1 < ((w.alloc (.cells #[.pointer (some ⟨x, 0, none⟩), .pointer (some ⟨y, 0, none⟩)] 31)).alloc (.cells #[.int .i64 8, .int .i64 s, .int .i64 o, .int .i64 n] 33)).heap.size := by simp
  clear HA HB h
  go_enter Try.func12, Try.ntmps12
  go_wp2_with fail
  generalize ((w.alloc (.cells #[.pointer (some ⟨x, 0, none⟩), .pointer (some ⟨y, 0, none⟩)] 31)).alloc (.cells #[.int .i64 8, .int .i64 s, .int .i64 o, .int .i64 n] 33)) = W at *
  generalize w.heap.size = bb at *
  refine (Ha.out _ hP.b).mono ?_
  rintro e w1 ⟨rfl, b1⟩
  have k1 := (b1.cell (p := ⟨bb, 1, none⟩) (show bb < W.heap.size by omega)).trans c21
  have k3 := (b1.cell (p := ⟨bb + 1, 3, none⟩) (show bb + 1 < W.heap.size by omega)).trans c33
  have hP1 : Pr x g R B0 y ao cap p w1 := ⟨hP.b.below b1, hP.r.below b1⟩
  have t1 := tW.trans (turn_below' (S := Two g ao) b1)
  have hs1 := b1.size
  clear b1 hP c21 c33 tW
  have hl1 : bb < w1.heap.size := by omega
  have hl2 : bb + 1 < w1.heap.size := by omega
  go_wp2_with fail
  have hP2 : ∀ o, Pr x g R B0 y ao cap p (w1.alloc o) := fun o => hP1.kept ((Turn.refl (fun _ => False) w1).alloc o) (fun q => q) (fun q => q) (fun q => q) (fun _ _ q => q)
  refine (Hb.out _ (hP2 _).r).mono ?_
  rintro e w2 ⟨rfl, b2⟩
  have hP3 : Pr x g R B0 y ao cap p w2 := ⟨(hP2 _).b.below b2, (hP2 _).r.below b2⟩
  have t2 := (t1.alloc _).trans (turn_below' (S := Two g ao) b2)
  have d0 := (b2.cell (p := ⟨w1.heap.size, 0, none⟩) (by simp))
  have d1 := (b2.cell (p := ⟨w1.heap.size, 1, none⟩) (by simp))
  have d2 := (b2.cell (p := ⟨w1.heap.size, 2, none⟩) (by simp))
  have d3 := (b2.cell (p := ⟨w1.heap.size, 3, none⟩) (by simp))
  have hl3 : w1.heap.size < w2.heap.size := by have := b2.size; simp at this; omega
  go_wp2_with fail
  go_ret
  exact ⟨rfl, p, hP3.kept ((Turn.refl (fun _ => False) w2).alloc _) (fun q => q) (fun q => q) (fun q => q) (fun _ _ q => q), t2.alloc _⟩
set_option maxHeartbeats 2000000 in
set_option maxRecDepth 100000 in
theorem one_none (x g R B0 y : Nat) (ao : Option Addr) (cap : Nat) (p : Nat → Bool) (t s o n : Int) (w : World) (h : Pr x g R B0 y ao cap p w) (h1 : (t == 1) = false) (h2 : (t == 2) = false) (h3 : (t == 3) = false) (h4 : (t == 4) = false) (h8 : (t == 8) = false) (h9 : (t == 9) = false) :
    Calls Try.prog 12 #[.agg #[.pointer (some ⟨x, 0, none⟩), .pointer (some ⟨y, 0, none⟩)], .agg #[.int .i64 t, .int .i64 s, .int .i64 o, .int .i64 n]] w fun e w' => e = .returned (.bool true) ∧ ∃ p', Pr x g R B0 y ao cap p' w' ∧ Turn (Two g ao) w w' := by
  have hP : ∀ o1 o2, Pr x g R B0 y ao cap p ((w.alloc o1).alloc o2) := fun o1 o2 => h.kept (((Turn.refl (fun _ => False) w).alloc o1).alloc o2) (fun q => q) (fun q => q) (fun q => q) (fun _ _ q => q)
  have HP := hide' hP
  clear h hP
  go_enter Try.func12, Try.ntmps12
  go_wp2
  go_ret
  exact ⟨rfl, p, HP.out _ _, ((Turn.refl _ w).alloc _).alloc _⟩
/-- 'one', whatever the call -/
theorem one_any (x g R B0 y : Nat) (ao : Option Addr) (cap : Nat) (p : Nat → Bool) (t s o n : Int) (w : World) (h : Pr x g R B0 y ao cap p w) :
    Calls Try.prog 12 #[.agg #[.pointer (some ⟨x, 0, none⟩), .pointer (some ⟨y, 0, none⟩)], .agg #[.int .i64 t, .int .i64 s, .int .i64 o, .int .i64 n]] w fun e w' => e = .returned (.bool true) ∧ ∃ p', Pr x g R B0 y ao cap p' w' ∧ Turn (Two g ao) w w' := by
  by_cases e1 : t = 1
  · subst e1; exact one_add x g R B0 y ao cap p s o n w h
  by_cases e2 : t = 2
  · subst e2; exact one_drop x g R B0 y ao cap p s o n w h
  by_cases e3 : t = 3
  · subst e3; exact one_has x g R B0 y ao cap p s o n w h
  by_cases e4 : t = 4
  · subst e4; exact one_count x g R B0 y ao cap p s o n w h
  by_cases e8 : t = 8
  · subst e8; exact one_quad x g R B0 y ao cap p s o n w h
  by_cases e9 : t = 9
  · subst e9; exact one_room x g R B0 y ao cap p s o n w h
  exact one_none x g R B0 y ao cap p t s o n w h (by simpa using e1) (by simpa using e2) (by simpa using e3) (by simpa using e4) (by simpa using e8) (by simpa using e9)
end Go.Proofs.Ytkipcdjadmocaaa
