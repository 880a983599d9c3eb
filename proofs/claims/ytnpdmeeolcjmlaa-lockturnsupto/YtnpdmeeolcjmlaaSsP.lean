import Derived.Test.YtnpdmeeolcjmlaaNmW
import Derived.Test.YtnpdmeeolcjmlaaSumP
set_option linter.unusedVariables false
set_option linter.unusedSimpArgs false
namespace Go.Proofs.Ytnpdmeeolcjmlaa
open Go.RowKit
namespace M
theorem wrap_wrap (a : Int) : wrap64 (wrap64 a + 1) = wrap64 (a + 1) := by unfold wrap64; omega
def v0 (s : Nat) (bg : Int) : Int := if s = 0 then bg else wrap64 (bg + 1)
def vt (s : Nat) (bg : Int) : Int := if s = 0 then -1 else bg
theorem getD2 (a b : Int) : ([a, b] : List Int).getD 0 0 = a ∧ ([a, b] : List Int).getD 1 0 = b := ⟨rfl, rfl⟩
theorem at0 {a b : Int} (h : a ≠ P) : er [a, b] ((0 : Nat) : Int) = 0 ∧ std [a, b] ((0 : Nat) : Int) = a := er_ok (ws := [a, b]) (k := 0) (by simp) h
theorem at1 {a b : Int} (h : b ≠ P) : er [a, b] ((1 : Nat) : Int) = 0 ∧ std [a, b] ((1 : Nat) : Int) = b := er_ok (ws := [a, b]) (k := 1) (by simp) h
theorem put0 {a b v : Int} (h : a ≠ P) : put [a, b] ((0 : Nat) : Int) v = [v, b] := by rw [put_ok (at0 h).1]; rfl
theorem put1 {a b v : Int} (h : b ≠ P) : put [a, b] ((1 : Nat) : Int) v = [a, v] := by rw [put_ok (at1 h).1]; rfl
/-- the state of LockSteps: s steps were made, f leaves, n accesses; h: it holds -/
structure Ss (w0 : World) (bg vp : Int) (x l b : Nat) (s f n : Nat) (h : Bool) (w : World) : Prop where
  ex : ∃ D tr bad, Mem D w0.heap.size x [v0 s bg, wrap64 (vp + (f : Nat))] tr bad w ∧ Lk l x 0 1 w ∧ Wt b l (vt s bg) (decide (s ≠ 0)) h w ∧ tr.length = n
  bel : Below w0.heap.size w0 w
  lb : w0.heap.size ≤ b
  h0 : s = 0 → h = false
variable {w0 : World} {bg vp : Int} {x l b s f n : Nat} {h : Bool} {w w' : World}
theorem Ss.below (q : Ss w0 bg vp x l b s f n h w) (t : Below w.heap.size w w') : Ss w0 bg vp x l b s f n h w' := by
  obtain ⟨D, tr, bad, h1, h2, h3, h4⟩ := q.ex
  exact ⟨⟨D, tr, bad, h1.below t, h2.below t, h3.below t, h4⟩, q.bel.trans (t.mono q.bel.size), q.lb, q.h0⟩
theorem Ss.trace (q : Ss w0 bg vp x l b s f n h w) (hl : n < 1999999999999) : Calls Try.prog 16 #[.pointer (some ⟨x, 0, none⟩)] w fun e w' => ∃ ro rc, e = .returned (.slice ro n rc) ∧ Ss w0 bg vp x l b s f n h w' := by
  obtain ⟨D, tr, bad, h1, h2, h3, h4⟩ := q.ex
  refine (trace_any h1 (by omega)).mono fun e w' ⟨ro, rc, he, _, hb⟩ => ⟨ro, rc, by rw [he, h4], q.below hb⟩
theorem Ss.ready (q : Ss w0 bg vp x l b s f n h w) : Calls Try.prog 24 #[.pointer (some ⟨b, 0, none⟩)] w fun e w' => ∃ r, e = .returned (.bool r) ∧ Ss w0 bg vp x l b s f n h w' := by
  obtain ⟨D, tr, bad, h1, h2, h3, h4⟩ := q.ex
  refine (ready_any h1 h2 h3 (by simp)).mono fun e w' ⟨he, hb⟩ => ⟨_, he, q.below hb⟩
theorem Ss.ticket (q : Ss w0 bg vp x l b s f n h w) : Calls Try.prog 12 #[.pointer (some ⟨b, 0, none⟩)] w fun e w' => e = .returned (.int .i64 (vt s bg)) ∧ w' = w := by
  obtain ⟨D, tr, bad, h1, h2, h3, h4⟩ := q.ex
  exact ticket_any h3
theorem Ss.leave (q : Ss w0 bg vp x l b s f n h w) (hl : n < 1999999999999) (hp : wrap64 (vp + (f : Nat)) ≠ P) : Calls Try.prog 25 #[.pointer (some ⟨l, 0, none⟩)] w fun e w' => e = .returned (.int .i64 0) ∧ Ss w0 bg vp x l b s (f + 1) (n + 1) h w' := by
  obtain ⟨D, tr, bad, h1, h2, h3, h4⟩ := q.ex
  refine (leave_any h1 h2 (by omega)).mono fun e w' ⟨he, ht⟩ => ?_
  rw [put1 hp, (at1 hp).2, wrap_wrap] at ht
  rw [(at1 hp).1] at he
  have k2 := ht.lk h1 h2
  have k3 := ht.wt h1 h3
  obtain ⟨D', h', tt, _⟩ := ht
  rw [show vp + (f : Nat) + 1 = vp + ((f + 1 : Nat) : Int) by omega] at h'
  exact ⟨he, ⟨⟨D', _, _, h', k2, k3, by simp [h4]⟩, q.bel.trans (tt.below (fun j hj => (h1.lo hj).1) h1.base), q.lb, q.h0⟩⟩
theorem Ss.first (q : Ss w0 bg vp x l b 0 f n h w) (hl : n < 1999999999999) (hp : bg ≠ P) : Calls Try.prog 11 #[.pointer (some ⟨b, 0, none⟩)] w fun e w' => e = .returned (.bool false) ∧ Ss w0 bg vp x l b 1 f (n + 1) false w' := by
  have hf := q.h0 rfl
  subst hf
  obtain ⟨D, tr, bad, h1, h2, h3, h4⟩ := q.ex
  have h3' : Wt b l (-1) false false w := h3
  have h1' : Mem D w0.heap.size x [bg, wrap64 (vp + (f : Nat))] tr bad w := h1
  refine (step_any h1' h2 h3' (fun _ => rfl) (by omega)).mono fun e w' ⟨he, k⟩ => ⟨he, ?_⟩
  have kb := k.below h1' q.bel (Nat.le_refl _) q.lb
  have kk := k.lk h1' h3' h2
  obtain ⟨D', hm, hw, _, _⟩ := k
  rw [show wM [bg, wrap64 (vp + (f : Nat))] 0 false = [wrap64 (bg + 1), wrap64 (vp + (f : Nat))] by unfold wM; rw [if_pos rfl, put0 hp, (at0 hp).2]] at hm
  rw [show wT [bg, wrap64 (vp + (f : Nat))] 0 (-1) false = bg by unfold wT; rw [if_pos ⟨rfl, (at0 hp).1⟩, (at0 hp).2], show wH [bg, wrap64 (vp + (f : Nat))] 0 false = true by unfold wH good; rw [decide_eq_true (at0 hp).1]; rfl] at hw
  exact ⟨⟨D', _, _, hm, kk, hw, by simp [wR, h4]⟩, kb, q.lb, fun z => by cases z⟩
theorem Ss.wait (q : Ss w0 bg vp x l b s f n false w) (hs0 : s ≠ 0) (hl : n < 1999999999999) : Calls Try.prog 11 #[.pointer (some ⟨b, 0, none⟩)] w fun e w' => ∃ r, e = .returned (.bool r) ∧ Ss w0 bg vp x l b (s + 1) f (n + 1) r w' := by
  obtain ⟨s, rfl⟩ : ∃ k, s = k + 1 := ⟨s - 1, by omega⟩
  obtain ⟨D, tr, bad, h1, h2, h3, h4⟩ := q.ex
  have h3' : Wt b l bg true false w := h3
  have h1' : Mem D w0.heap.size x [wrap64 (bg + 1), wrap64 (vp + (f : Nat))] tr bad w := h1
  refine (step_any h1' h2 h3' (fun z => by cases z) (by omega)).mono fun e w' ⟨he, k⟩ => ⟨_, he, ?_⟩
  have kb := k.below h1' q.bel (Nat.le_refl _) q.lb
  have kk := k.lk h1' h3' h2
  obtain ⟨D', hm, hw, _, _⟩ := k
  exact ⟨⟨D', _, _, hm, kk, hw, by simp [wR, h4]⟩, kb, q.lb, fun z => by cases z⟩
theorem Ss.hold (q : Ss w0 bg vp x l b s f n true w) (hl : n < 1999999999999) : Calls Try.prog 11 #[.pointer (some ⟨b, 0, none⟩)] w fun e w' => e = .returned (.bool true) ∧ Ss w0 bg vp x l b (s + 1) f n true w' := by
  cases s with
  | zero => have := q.h0 rfl; cases this
  | succ s =>
    obtain ⟨D, tr, bad, h1, h2, h3, h4⟩ := q.ex
    have h3' : Wt b l bg true true w := h3
    have h1' : Mem D w0.heap.size x [wrap64 (bg + 1), wrap64 (vp + (f : Nat))] tr bad w := h1
    refine (step_any h1' h2 h3' (fun z => by cases z) (by omega)).mono fun e w' ⟨he, k⟩ => ⟨he, ?_⟩
    have kb := k.below h1' q.bel (Nat.le_refl _) q.lb
    have kk := k.lk h1' h3' h2
    obtain ⟨D', hm, hw, _, _⟩ := k
    exact ⟨⟨D', _, _, hm, kk, hw, by simp [wR, h4]⟩, kb, q.lb, fun z => by cases z⟩
/-- made: two stores, a lock, a waiter -/
theorem put00 (v : Int) : put (List.replicate 2 0) 0 v = [v, 0] ∧ er (List.replicate 2 0) 0 = 0 := ⟨rfl, rfl⟩
theorem put01 (u v : Int) : put [u, 0] 1 v = [u, v] := rfl
theorem vt_pos (h : s ≠ 0) : vt s bg = bg := if_neg h
end M
end Go.Proofs.Ytnpdmeeolcjmlaa
