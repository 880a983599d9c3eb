import Derived.Test.YtclmnkilfijeaaaDoorNuM
import Derived.Test.YtclmnkilfijeaaaDoorNuN
set_option linter.unusedVariables false
set_option linter.unusedSimpArgs false
namespace Go.Proofs.YtclmnkilfijeaaaDoor
open Go.RowKit
/-- what ftoa64 makes of a float -/
def FtoaIs (r : Nat) (l : List UInt8) : Prop := ∀ B g cap w, Tb w → 4 ≤ B → B ≤ g → w.ownsRow B 5 1 (.slice (some ⟨g, 0, none⟩) 0 cap) 0 [] → B ≤ w.heap.size →
  Calls Tryd.prog 16 #[.slice (some ⟨g, 0, none⟩) 0 cap, .float .f64 r, .int .u8 102, .int .i64 (-1)] w fun e w' =>
    ∃ g' cap' l', e = .returned (.slice (some ⟨g', 0, none⟩) l'.length cap') ∧ l' = l ∧ w'.ownsRow B 5 1 (.slice (some ⟨g', 0, none⟩) l'.length cap') l'.length (Lib.byteCells l') ∧ Below B w w'
theorem Below.tb {B : Nat} {w w' : World} (h : Tb w) (b : Below B w w') (hB : 4 ≤ B) : Tb w' := by
  have t : Turn (fun k => B ≤ k) w w' := ⟨b.os, b.tape, b.output, b.size, fun k hk hn => b.block k (by omega)⟩
  exact h.turn t (fun k hk q => by omega)
set_option maxRecDepth 100000 in
set_option maxHeartbeats 4000000 in
theorem format_in (r : Nat) (l : List UInt8) (h : FtoaIs r l) (w : World) (hT : Tb w) :
    Calls Tryd.prog 14 #[.float .f64 r, .int .u8 102, .int .i64 (-1), .int .i64 64] w fun e w' => e = .returned (.string ⟨l.toArray⟩) ∧ Below w.heap.size w w' := by
  obtain ⟨i0, hi, hz0, hz1, hz2⟩ := info_parts info5
  have h4 : 4 ≤ w.heap.size := hT.h3
  have H := hide' (And.intro h hT)
  clear h hT
  generalize hB : w.heap.size = B at *
  have HB := hide' hB
  clear hB
  go_enter Tryd.func14, Tryd.ntmps14
  go_wp2_with (first | (at_make; refine wpList_make_own _ rfl _ _ 33 rfl B 5 i0 (.int .u8 0) 1 Tryd.underlying33 hi hz0 hz1 .i64 .i64 (24 : Int) 24 rfl rfl rfl (by rw [hz2]; omega) (by unfold maxLen; omega) (by have := HB.out; omega) ?_; intro w2 hrow2 hgrow2))
  have b2 : Below B w w2 := (Below.refl B w).grown hgrow2 (by have := HB.out; omega) (fun j hj => by cases hj)
  have hT2 : Tb w2 := Below.tb H.out.2 b2 h4
  have hBw2 : B ≤ w2.heap.size := by have := hgrow2.size; have := HB.out; omega
  refine (H.out.1 B w.heap.size 24 w2 hT2 h4 (by have := HB.out; omega) hrow2 hBw2).mono ?_
  rintro e w3 ⟨g3, c3, l3, rfl, hl3, hr3, b3⟩
  have hcells := hr3.cells rfl
  have hcv := run_convert_bytes_back (P := Tryd.prog) w3 33 9 5 ⟨g3, 0, none⟩ c3 l3 Tryd.underlying33 Tryd.underlying5 Tryd.underlying9 (fun j hj => hcells j _ (by simp [Lib.byteCells, hj]))
  have HE := hide' (And.intro hl3 (b2.trans b3))
  clear hl3 hr3 b3 b2 hT2 hBw2 hcells hrow2 hgrow2
  go_wp2_with (fail)
  go_ret
  obtain ⟨hl3, b⟩ := HE.out
  exact ⟨by rw [← hl3]; rfl, b⟩
set_option maxRecDepth 100000 in
theorem format_any (r : Nat) (l : List UInt8) (h : FtoaIs r l) (w : World) (hT : Tb w) :
    Calls Tryd.prog 11 #[.float .f64 r, .int .u8 102, .int .i64 (-1), .int .i64 64] w fun e w' => e = .returned (.string ⟨l.toArray⟩) ∧ Below w.heap.size w w' := by
  have H := hide' (format_in r l h w hT)
  clear h hT
  go_enter Tryd.func11, Tryd.ntmps11
  go_wp2_with (fail)
  refine H.out.mono ?_
  rintro e w1 ⟨rfl, b⟩
  go_wp2_with (fail)
  go_ret
  exact ⟨rfl, b⟩
/-- the tests ahead of the writing -/
theorem isNaN_any (r : Nat) (w : World) : Calls Tryd.prog 9 #[.float .f64 r] w fun e w' => e = .returned (.bool (FloatKind.f64.format.order r r != some .eq)) ∧ w' = w := by
  go_enter Tryd.func9, Tryd.ntmps9
  go_wp2
  go_ret
  exact ⟨rfl, rfl⟩
theorem sign_any (r : Nat) (hr : r < 18446744073709551616) (w : World) : Calls Tryd.prog 10 #[.float .f64 r] w fun e w' => e = .returned (.bool (decide (9223372036854775808 ≤ r))) ∧ w' = w := by
  have hfb : ∀ W, (callFunc 13 #[.float .f64 r]).run Tryd.prog W = .ok (.value (.int .u64 r)) W := fun W => by rfl
  have hw : decide (wrap64 (r : Int) < 0) = decide (9223372036854775808 ≤ r) := by
    rw [decide_eq_decide]
    unfold wrap64
    omega
  go_enter Tryd.func10, Tryd.ntmps10
  go_wp2
  go_ret
  exact ⟨rfl, rfl⟩
set_option maxRecDepth 100000 in
set_option maxHeartbeats 4000000 in
theorem number_refused (r : Nat) (hr : r < 18446744073709551616) (w : World) (h : FloatKind.f64.format.order r r ≠ some .eq ∨ 9223372036854775808 ≤ r ∨ FloatKind.f64.format.order r 4607182418800017408 = some .gt) :
    Calls Tryd.prog 6 #[.float .f64 r] w fun e w' => e = .returned (.tuple #[.string ⟨#[]⟩, .bool false]) ∧ w' = w := by
  have HN := hide' fun w => isNaN_any r w
  have HS := hide' fun w => sign_any r hr w
  obtain ⟨q1, h1⟩ : ∃ q : Bool, q = (FloatKind.f64.format.order r r != some .eq) := ⟨_, rfl⟩
  obtain ⟨q2, h2⟩ : ∃ q : Bool, q = decide (9223372036854775808 ≤ r) := ⟨_, rfl⟩
  have h3 : q1 = true ∨ q2 = true ∨ (FloatKind.f64.format.order r 4607182418800017408 == some .gt) = true := by
    rcases h with h | h | h
    · left; rw [h1]; simpa using h
    · right; left; rw [h2]; simpa using h
    · right; right; rw [h]; rfl
  rw [← h1] at HN
  rw [← h2] at HS
  clear h1 h2 h hr
  cases q1
  · cases q2
    · have h4 : (FloatKind.f64.format.order r 4607182418800017408 == some .gt) = true := by rcases h3 with q | q | q; cases q; cases q; exact q
      clear h3
      go_enter Tryd.func6, Tryd.ntmps6
      go_wp2_with (first | (go_at_call 9; refine (HN.out _).mono ?_; rintro e w1 ⟨rfl, rfl⟩) | (go_at_call 10; refine (HS.out _).mono ?_; rintro e w1 ⟨rfl, rfl⟩))
      go_ret2
      exact ⟨rfl, rfl⟩
    · clear h3
      go_enter Tryd.func6, Tryd.ntmps6
      go_wp2_with (first | (go_at_call 9; refine (HN.out _).mono ?_; rintro e w1 ⟨rfl, rfl⟩) | (go_at_call 10; refine (HS.out _).mono ?_; rintro e w1 ⟨rfl, rfl⟩))
      go_ret2
      exact ⟨rfl, rfl⟩
  · clear h3
    go_enter Tryd.func6, Tryd.ntmps6
    go_wp2_with (first | (go_at_call 9; refine (HN.out _).mono ?_; rintro e w1 ⟨rfl, rfl⟩) | (go_at_call 10; refine (HS.out _).mono ?_; rintro e w1 ⟨rfl, rfl⟩))
    go_ret2
    exact ⟨rfl, rfl⟩
set_option maxRecDepth 100000 in
set_option maxHeartbeats 4000000 in
theorem number_write (r : Nat) (l : List UInt8) (hr : r < 9223372036854775808) (w : World) (h1 : FloatKind.f64.format.order r r = some .eq) (h2 : FloatKind.f64.format.order r 4607182418800017408 ≠ some .gt) (hF : FtoaIs r l) (hT : Tb w) (hl : l.length < 9223372036854775808) :
    Calls Tryd.prog 6 #[.float .f64 r] w fun e w' => e = .returned (.tuple (if l.length ≤ 11 then #[.string ⟨l.toArray⟩, .bool true] else #[.string ⟨#[]⟩, .bool false])) ∧ Below w.heap.size w w' := by
  have HN := hide' fun w => isNaN_any r w
  have HS := hide' fun w => sign_any r (by omega) w
  rw [show (FloatKind.f64.format.order r r != some .eq) = false by rw [h1]; rfl] at HN
  rw [show decide (9223372036854775808 ≤ r) = false by rw [decide_eq_false_iff_not]; omega] at HS
  have h4 : (FloatKind.f64.format.order r 4607182418800017408 == some .gt) = false := by simpa using h2
  have HF := hide' (format_any r l hF w hT)
  have hsz : (⟨l.toArray⟩ : ByteArray).size = l.length := by simp [ByteArray.size]
  generalize (⟨l.toArray⟩ : ByteArray) = s at *
  rw [← hsz] at hl ⊢
  clear h1 h2 hF hT hr hsz
  by_cases hc : s.size ≤ 11
  · rw [if_pos hc]
    have hc' : ¬ ((11 : Int) < (s.size : Int)) := by omega
    have HC := hide' hc
    clear hc hl
    go_enter Tryd.func6, Tryd.ntmps6
    go_wp2_with (first | (go_at_call 9; refine (HN.out _).mono ?_; rintro e w1 ⟨rfl, rfl⟩) | (go_at_call 10; refine (HS.out _).mono ?_; rintro e w1 ⟨rfl, rfl⟩) | (go_at_call 11; refine HF.out.mono ?_; rintro e w1 ⟨rfl, b1⟩))
    go_ret2
    exact ⟨rfl, b1⟩
  · rw [if_neg hc]
    have hc' : (11 : Int) < (s.size : Int) := by omega
    have HC := hide' hc
    clear hc hl
    go_enter Tryd.func6, Tryd.ntmps6
    go_wp2_with (first | (go_at_call 9; refine (HN.out _).mono ?_; rintro e w1 ⟨rfl, rfl⟩) | (go_at_call 10; refine (HS.out _).mono ?_; rintro e w1 ⟨rfl, rfl⟩) | (go_at_call 11; refine HF.out.mono ?_; rintro e w1 ⟨rfl, b1⟩))
    go_ret2
    exact ⟨rfl, b1⟩
end Go.Proofs.YtclmnkilfijeaaaDoor
