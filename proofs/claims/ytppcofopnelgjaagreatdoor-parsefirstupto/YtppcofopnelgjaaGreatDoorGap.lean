import Derived.Test.YtppcofopnelgjaaGreatDoorGrV
set_option linter.unusedVariables false
set_option linter.unusedSimpArgs false
namespace Go.Proofs.YtppcofopnelgjaaGreatDoor
open Go.RowKit

/-! blanks and comments -/
def L.gapL (C : List L.Cx) (N : Nat) : Nat → Nat → Nat
  | 0, i => i
  | f + 1, i => if (L.g C i).r = 35 then L.gapL C N f (L.skp C L.isBlank N (L.skp C L.inLine N i)) else i
def Tx.gap (T : Tx) (i : Nat) : Nat := L.gapL T.C T.N (T.N + 1) (T.skp L.isBlank i)
theorem gapL_no (C : List L.Cx) (N f i : Nat) (h : ¬ (L.g C i).r = 35) : L.gapL C N f i = i := by
  cases f with
  | zero => rfl
  | succ f => simp [L.gapL, h]
theorem gapL_yes (C : List L.Cx) (N f i : Nat) (h : (L.g C i).r = 35) : L.gapL C N (f + 1) i = L.gapL C N f (L.skp C L.isBlank N (L.skp C L.inLine N i)) := by simp [L.gapL, h]
theorem skp_on {T : Tx} (ok : T.Ok) {f : Nat} {p : Int → Bool} (t : Tells f p) (j : Nat) (hj : j < T.N) (hp : p (T.g j).r = true) : j + 1 ≤ T.skp p j ∧ T.skp p j ≤ T.N := by
  have q1 : T.skp p j = L.skp T.C p (T.N - 1) (j + 1) := by
    have := L.skp_yes T.C p (T.N - 1) j hp
    rw [show T.N - 1 + 1 = T.N by omega] at this; exact this
  rw [q1]
  exact L.skp_le T.C p T.N (T.N - 1) (j + 1) (by omega) (ok.no t)

set_option maxRecDepth 100000 in
set_option maxHeartbeats 1000000 in
theorem passGap_any {T : Tx} {b i : Nat} {w : World} (h : Scn T b i w) :
    Calls Tryz.prog 93 #[.pointer (some ⟨b, 0, none⟩)] w fun e w' => e = .returned (.tuple #[]) ∧ Scn T b (T.gap i) w' ∧ Turn (fun k => k = b) w w' := by
  have H := hide' h
  clear h
  go_enter Tryz.func93, Tryz.ntmps93
  go_wp2_with (go_at_call 118; refine (passWhile_any H.out tells_blank).mono ?_; rintro e w1 ⟨rfl, s1, t1⟩; have H1 := hide' (And.intro s1 t1); clear s1 t1)
  go_loopw [] (fun wx => ∃ j f, Scn T b j wx ∧ Turn (fun k => k = b) w wx ∧ L.gapL T.C T.N f j = T.gap i ∧ T.N < j + f) (fun wx => T.N - nextOf b wx)
  case atStart => exact ⟨_, T.N + 1, H1.out.1, H1.out.2, rfl, by omega⟩
  case round =>
    obtain ⟨j, f, hs, ht, hk, hj⟩ := hrel
    have hne := nextOf_of hs
    have hle := hs.le
    have Hs := hide' (And.intro hs (And.intro ht hk))
    clear hs ht hk
    by_cases hr : (T.g j).r = 35
    · have e1 : ((T.g j).r == 35) = true := by simpa using hr
      have hlt : j < T.N := by
        rcases Nat.lt_or_ge j T.N with q | q
        · exact q
        · have : j = T.N := by omega
          have hl := Hs.out.1.ok.good.last.1
          rw [this] at hr
          have : (T.g T.N).r = -1 := hl
          omega
      have Hr := hide' hr
      clear hr
      go_wp2_with (first | (go_at_call 94; refine (peek_any Hs.out.1).mono ?_; rintro e w2 ⟨rfl, b2⟩; have H2 := hide' (And.intro (Hs.out.1.below b2) (Hs.out.2.1.trans (turn_below b2))); clear b2) | (go_at_call 118; first | (refine (passWhile_any H3.out.1 tells_blank).mono ?_; rintro e w4 ⟨rfl, s4, t4⟩) | (refine (passWhile_any H2.out.1 tells_line).mono ?_; rintro e w3 ⟨rfl, s3, t3⟩; have H3 := hide' (And.intro s3 (H2.out.2.trans t3)); clear s3 t3)))
      have q := skp_on Hs.out.1.ok tells_line j hlt (by rw [Hr.out]; decide)
      have q2 := Hs.out.1.ok.skp_le tells_blank (T.skp L.inLine j) q.2
      cases f with
      | zero => omega
      | succ f =>
        refine ⟨⟨_, f, s4, H3.out.2.trans t4, ?_, ?_⟩, ?_⟩
        · rw [← Hs.out.2.2]; exact (gapL_yes _ _ _ _ Hr.out).symm
        · omega
        · rw [nextOf_of s4, hne]; omega
    · have e1 : ((T.g j).r == 35) = false := by simpa using hr
      go_wp2_with (first | (go_at_call 94; refine (peek_any Hs.out.1).mono ?_; rintro e w2 ⟨rfl, b2⟩))
      go_end0
      have e : T.gap i = j := Hs.out.2.2.symm.trans (gapL_no _ _ _ _ hr)
      exact ⟨rfl, by rw [e]; exact Hs.out.1.below b2, Hs.out.2.1.trans (turn_below b2)⟩
end Go.Proofs.YtppcofopnelgjaaGreatDoor
