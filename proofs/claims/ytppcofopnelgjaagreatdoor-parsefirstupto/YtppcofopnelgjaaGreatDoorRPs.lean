import Derived.Test.YtppcofopnelgjaaGreatDoorRPk
import Derived.Test.YtppcofopnelgjaaGreatDoorRWd
import Derived.WalkLawsBesides
set_option linter.unusedVariables false
set_option linter.unusedSimpArgs false
namespace Go.Proofs.YtppcofopnelgjaaGreatDoor
open Go.RowKit
def mf (t : R.Tok) (code : Int) : Value := .iface 82 (.agg #[.int .i8 t.1, .string t.2.1, .int .i64 t.2.2.1, .int .i64 t.2.2.2, .int .i64 code])
set_option maxRecDepth 100000 in
set_option maxHeartbeats 1000000 in
theorem refuse_any {I : R.Src} {ao : Option Addr} {cap b i : Nat} {w : World} (h : Rdr I ao cap b i w) (code : Int) :
    Calls Tryz.prog 108 #[.pointer (some ⟨b, 0, none⟩), .int .i64 code] w fun e w' => e = .panicked [{ v := mf (I.at i) code, recovered := false }] ∧ Below w.heap.size w w' := by
  have HP := hide' (rpeek_any h)
  clear h
  unfold tv at HP
  unfold mf
  generalize I.at i = t at *
  obtain ⟨tk, tt, tl, tc⟩ := t
  simp only at HP ⊢
  go_enter Tryz.func108, Tryz.ntmps108
  go_wp2_with (go_at_call 106; refine HP.out.mono ?_; rintro e w1 ⟨rfl, b1⟩)
  exact ⟨rfl, rfl, b1⟩
set_option maxRecDepth 100000 in
set_option maxHeartbeats 1000000 in
theorem rclone_any (s : ByteArray) (w : World) (hlim : s.size ≤ 281474976710656) :
    Calls Tryz.prog 76 #[.string s] w fun e w' => e = .returned (.string s) ∧ Below w.heap.size w w' := by
  go_enter Tryz.func76, Tryz.ntmps76
  go_wp2_with (go_at_call 105; refine (sh.stringslite_Clone _ _ hlim).mono ?_; rintro e w1 ⟨rfl, b1⟩)
  go_ret
  exact ⟨rfl, b1⟩
set_option maxRecDepth 100000 in
set_option maxHeartbeats 1000000 in
theorem rpass_any {I : R.Src} {ao : Option Addr} {cap b i : Nat} {w : World} (h : Rdr I ao cap b i w) (k : Int) (s : ByteArray) (hk : k ≠ 5) :
    Calls Tryz.prog 131 #[.pointer (some ⟨b, 0, none⟩), .int .i8 k, .string s] w fun e w' => e = .returned (.bool (R.is k s.toList (I.at i))) ∧ Rdr I ao cap b (if R.is k s.toList (I.at i) then i + 1 else i) w' ∧ Turn (fun k => k = b) w w' := by
  have HP := hide' (rpeek_any h)
  have hlt : (I.at i).1 = k → i < I.l.length := fun e => h.at_on (by rw [e]; exact hk)
  have lt := h.lt
  have hlen : i < R.lim + 1 := by have := h.ok.few; have := h.le; omega
  unfold R.lim at hlen
  have hw : IntKind.i64.wrap ((i : Int) + 1) = (i : Int) + 1 := by
    rw [IntKind.wrap_i64]; omega
  clear hlen
  have H := hide' h
  clear h
  unfold tv at HP
  unfold R.is
  generalize I.at i = t at *
  obtain ⟨tk, tt, tl, tc⟩ := t
  simp only at HP hlt ⊢
  have HL := hide' hlt
  clear hlt
  obtain ⟨q, hq⟩ : ∃ q, (tk == k && (tt.toList == s.toList)) = q := ⟨_, rfl⟩
  rw [hq]
  obtain ⟨i', hi'⟩ : ∃ i', (if q = true then i + 1 else i) = i' := ⟨_, rfl⟩
  rw [hi']
  have HQ := hide' (And.intro hq hi')
  clear hq hi'
  by_cases h1 : tk = k
  · subst h1
    have hi := HL.out rfl
    cases h2 : (tt.toList == s.toList)
    · go_enter Tryz.func131, Tryz.ntmps131
      go_wp2_with (go_at_call 106; refine HP.out.mono ?_; rintro e w1 ⟨rfl, b1⟩)
      go_ret
      have b2 : Below w.heap.size w (w1.alloc (.cells #[.int .i8 tk, .string tt, .int .i64 tl, .int .i64 tc] 44)) := b1.trans ((Below.refl _ _).alloc b1.size _)
      obtain ⟨rfl, rfl⟩ := HQ.out
      exact ⟨ret_bool (by simp [h2]), by simpa [h2] using H.out.below b2, turn_below b2⟩
    · go_enter Tryz.func131, Tryz.ntmps131
      go_wp2_with (go_at_call 106; refine HP.out.mono ?_; rintro e w1 ⟨rfl, b1⟩; have b2 : Below w.heap.size w (w1.alloc (.cells #[.int .i8 tk, .string tt, .int .i64 tl, .int .i64 tc] 44)) := (b1.trans ((Below.refl _ _).alloc b1.size _)); have r2 := H.out.below b2; have c5 := r2.c5; have f5 := r2.f; have R1 := hide' (And.intro r2 b2); have n1 : ¬ b = w1.heap.size := (by have := b1.size; omega); clear r2 b2)
      go_ret
      have st := R1.out.1.step hi
      obtain ⟨rfl, rfl⟩ := HQ.out
      exact ⟨ret_bool (by simp [h2]), by simpa [h2] using st.1, (turn_below R1.out.2).trans st.2⟩
  · have h1' : (tk == k) = false := by simpa using h1
    go_enter Tryz.func131, Tryz.ntmps131
    go_wp2_with (go_at_call 106; refine HP.out.mono ?_; rintro e w1 ⟨rfl, b1⟩)
    go_ret
    have b2 : Below w.heap.size w (w1.alloc (.cells #[.int .i8 tk, .string tt, .int .i64 tl, .int .i64 tc] 44)) := b1.trans ((Below.refl _ _).alloc b1.size _)
    obtain ⟨rfl, rfl⟩ := HQ.out
    exact ⟨ret_bool (by simp [h1']), by simpa [h1'] using H.out.below b2, turn_below b2⟩
end Go.Proofs.YtppcofopnelgjaaGreatDoor
