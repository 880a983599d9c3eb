import Derived.Test.YtnlopepbcnegbaaGreatDoorPass
set_option linter.unusedVariables false
set_option linter.unusedSimpArgs false
namespace Go.Proofs.YtnlopepbcnegbaaGreatDoor
open Go.RowKit
/-- a function of the program that tells a class -/
structure Tells (f : Nat) (p : Int → Bool) : Prop where
  enters : ∀ args w, (callFunc f args).run Tryz.prog w = .ok (.enter f args) w
  calls : ∀ r w, Calls Tryz.prog f #[.int .i32 r] w fun e w' => e = .returned (.bool (p r)) ∧ w' = w
  none : p (-1) = false

def Tx.skp (T : Tx) (p : Int → Bool) (i : Nat) : Nat := L.skp T.C p T.N i
theorem Tx.Ok.no {T : Tx} (h : T.Ok) {f : Nat} {p : Int → Bool} (t : Tells f p) : p (L.g T.C T.N).r = false := by rw [h.good.last.1]; exact t.none
theorem Tx.Ok.skp_le {T : Tx} (h : T.Ok) {f : Nat} {p : Int → Bool} (t : Tells f p) (i : Nat) (hi : i ≤ T.N) : i ≤ T.skp p i ∧ T.skp p i ≤ T.N :=
  L.skp_le T.C p T.N T.N i hi (h.no t)

set_option maxRecDepth 100000 in
set_option maxHeartbeats 1000000 in
theorem passWhile_any {T : Tx} {b i : Nat} {w : World} (h : Scn T b i w) {f : Nat} {p : Int → Bool} (t : Tells f p) :
    Calls Tryz.prog 68 #[.pointer (some ⟨b, 0, none⟩), .func (.func f) #[] #[]] w fun e w' => e = .returned (.tuple #[]) ∧ Scn T b (T.skp p i) w' ∧ Turn (fun k => k = b) w w' := by
  have ef := t.enters
  have hno := h.ok.no t
  have H := hide' (And.intro h (And.intro t hno))
  have hle := h.le
  clear h t hno
  go_enter Tryz.func68, Tryz.ntmps68
  go_wp2
  go_loopw [] (fun wx => ∃ j, Scn T b j wx ∧ Turn (fun k => k = b) w wx ∧ T.skp p j = T.skp p i ∧ j ≤ T.N) (fun wx => T.N - nextOf b wx)
  case atStart => exact ⟨i, H.out.1, Turn.refl _ _, rfl, hle⟩
  case round =>
    obtain ⟨j, hs, ht, hk, hj⟩ := hrel
    have Hs := hide' (And.intro hs (And.intro ht hk))
    have hne := nextOf_of hs
    clear hs ht hk
    cases hp : p (T.g j).r
    · go_wp2_with (first | (go_at_call 49; refine (peek_any Hs.out.1).mono ?_; rintro e w1 ⟨rfl, b1⟩) | (go_at_fn f; refine (H.out.2.1.calls _ _).mono ?_; rintro e w2 ⟨rfl, hw2⟩; replace hw2 := hw2.symm; subst hw2))
      go_end0
      have e : T.skp p i = j := Hs.out.2.2.symm.trans (L.skp_no T.C p T.N j hp)
      exact ⟨rfl, by rw [e]; exact Hs.out.1.below b1, Hs.out.2.1.trans (turn_below b1)⟩
    · have hlt : j < T.N := by
        rcases Nat.lt_or_ge j T.N with q | q
        · exact q
        · have : j = T.N := by omega
          rw [this] at hp
          have := H.out.2.2
          rw [show (L.g T.C T.N) = T.g T.N from rfl, hp] at this; cases this
      go_wp2_with (first | (go_at_call 49; refine (peek_any Hs.out.1).mono ?_; rintro e w1 ⟨rfl, b1⟩) | (go_at_fn f; refine (H.out.2.1.calls _ _).mono ?_; rintro e w2 ⟨rfl, hw2⟩; replace hw2 := hw2.symm; subst hw2) | (go_at_call 75; refine (pass_any (Hs.out.1.below b1) hlt).mono ?_; rintro e w3 ⟨rfl, s3, t3⟩))
      have e : T.skp p (j + 1) = T.skp p i := by
        rw [← Hs.out.2.2]
        unfold Tx.skp
        have hN : T.N = (T.N - 1) + 1 := by omega
        have q1 : L.skp T.C p T.N j = L.skp T.C p (T.N - 1) (j + 1) := by
          have := L.skp_yes T.C p (T.N - 1) j hp
          rw [← hN] at this; exact this
        rw [q1]
        exact L.skp_more T.C p T.N T.N (T.N - 1) (j + 1) (by omega) H.out.2.2 (by omega) (by omega)
      refine ⟨⟨j + 1, s3, (Hs.out.2.1.trans (turn_below b1)).trans t3, e, by omega⟩, ?_⟩
      rw [nextOf_of s3, hne]; omega
end Go.Proofs.YtnlopepbcnegbaaGreatDoor
