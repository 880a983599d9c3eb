import Derived.Test.YtifbppjmdjdjbaaFrame
import Derived.Test.YtifbppjmdjdjbaaOneW
set_option linter.unusedVariables false
namespace Go.Proofs.Ytifbppjmdjdjbaa
namespace bitsOne
open Go.ChangeShapes Go.WideShapes Go.ChangeAt Go.RowKit
theorem walk (room : Int) (a : Option Addr) (len cap : Nat) (ns : List Int) (n : Int) (drop : Bool) (w : World) (hI : IsInts w a len cap ns) :
    Calls Try.prog 5 #[.int .i64 room, .slice a len cap, .int .i64 n, .bool drop] w fun e w' => e = .returned (.bool true) ∧ Below w.heap.size w w' := by
  have hout : ∀ k, roomOf room ≤ k → inL (roomOf room) ns k = false := inL_out _ _
  have hF := fitB_has (inL (roomOf room) ns) (roomOf room) hout n
  by_cases h0 : n < 0
  · have hT := hF (by simp [fitB]; omega)
    cases drop
    · exact one_a_neg_f room a len cap ns n w hI h0 hT hout
    · exact one_d_neg_f room a len cap ns n w hI h0 hT hout
  · by_cases h1 : n < (roomOf room : Int)
    · cases hT : hasB (inL (roomOf room) ns) n <;> cases drop
      · exact one_a_in_f room a len cap ns n w hI ⟨by omega, h1⟩ hT hout
      · exact one_d_in_f room a len cap ns n w hI ⟨by omega, h1⟩ hT hout
      · exact one_a_in_t room a len cap ns n w hI ⟨by omega, h1⟩ hT hout
      · exact one_d_in_t room a len cap ns n w hI ⟨by omega, h1⟩ hT hout
    · have hT := hF (by simp [fitB]; omega)
      cases drop
      · exact one_a_over_f room a len cap ns n w hI ⟨by omega, by omega⟩ hT hout
      · exact one_d_over_f room a len cap ns n w hI ⟨by omega, by omega⟩ hT hout

set_option maxRecDepth 100000 in
theorem lifted (os : Os) (started : os.Started) (H : Type) (enc : TypeId × Value → H) :
    ReturnsInHanded {} Try.checked os 5 .any (Rows.bitsOneSpec.pre6 enc Try.prog Try.f5 Rows.bitsOneRow.domain false) (Rows.bitsOneSpec.post enc Try.prog Try.f5 false true false false) := by
  refine returnsInHanded_of_change (C := Try.checked) own started (by kernel_rfl) Try.func5
    (ChangeSpec.witness6 (enc := enc) (C := Try.checked) false ⟨#[], #[.int .i64 0, .slice none 0 0, .int .i64 0, .bool false], []⟩ 8 (by kernel_rfl) (by kernel_rfl) (by kernel_rfl) (by kernel_rfl)) ?_
  intro W base args ds gs before hval0 hW hcnd _
  have hval : ∀ (j : Nat) t v, Try.f5.params[j]? = some t → args[j]? = some v → Value.okWide Try.prog W .any base t v := hval0
  have hW' := hW
  obtain ⟨p, q, hA0, hV, rfl, hfz, hnd⟩ := hW
  have hA : DataW.TrodAll enc Try.prog W 0 (fun _ => true) true Try.f5.params.toList args.toList ds p := hA0
  rw [Try.params5] at hA hval
  obtain ⟨v0, vs0, d0, ds0, p0, q0, hargs, rfl, rfl, h0, r0⟩ := trodAll_cons hA
  obtain ⟨v1, vs1, d1, ds1, p1, q1, rfl, rfl, rfl, h1, r1⟩ := trodAll_cons r0
  obtain ⟨v2, vs2, d2, ds2, p2, q2, rfl, rfl, rfl, h2, r2⟩ := trodAll_cons r1
  obtain ⟨v3, vs3, d3, ds3, p3, q3, rfl, rfl, rfl, h3, r3⟩ := trodAll_cons r2
  obtain ⟨rfl, rfl, rfl⟩ := trodAll_nil r3
  obtain rfl : args = #[v0, v1, v2, v3] := by cases args; simp_all
  obtain ⟨rfl, rfl⟩ := trodVars_none hV
  obtain ⟨room, rfl, rfl, rfl, w0⟩ := open_int Try.underlying3 (hval 0 3 v0 rfl rfl) h0
  obtain ⟨a1, len1, cap1, rfl⟩ := okWide_slice Try.underlying22 (hval 1 22 v1 rfl rfl)
  have k1 := h1
  have lt1 : ∀ x ∈ p1, x.block < W.heap.size := by obtain ⟨m, hm⟩ := k1; exact DataW.trod_lt m _ _ _ hm
  obtain ⟨ns, w1⟩ := ints_in h1
  obtain ⟨n, rfl, rfl, rfl, w2⟩ := open_int Try.underlying3 (hval 2 3 v2 rfl rfl) h2
  obtain ⟨b, rfl, rfl, rfl⟩ := open_bool Try.underlying4 (hval 3 4 v3 rfl rfl) h3
  clear hA0 hval0
  refine (walk room a1 len1 cap1 ns n b W w1).mono fun e W' ⟨he, bel⟩ => ?_
  subst he
  exact ⟨_, rfl, _, _, _, [], _, [], hW', trodAll_mk1 (shut_bool Try.underlying4 _), (trodAll_cons_mk (shut_int Try.underlying3 w0) (trodAll_cons_mk (Below.trod laidOut (by kernel_rfl) (of_decide_eq_true (by kernel_rfl)) k1 bel lt1) (trodAll_cons_mk (shut_int Try.underlying3 w2) (trodAll_cons_mk (shut_bool Try.underlying4 b) trodAll_mk0)))), rfl, bel.frame _, fun h => by cases h⟩

theorem over : Rows.bitsOneRow.holds Try.pinned (OpenSpec.ofChange Rows.bitsOneSpec) :=
  OpenClaim.holds_of_wide 5 Try.f5 rfl rfl rfl rfl rfl rfl rfl ⟨rfl, rfl, rfl, rfl, rfl⟩ rfl rfl rfl rfl rfl (by kernel_rfl) Try.func5 (by kernel_rfl)
    (of_decide_eq_true (by kernel_rfl)) (by unfold Func.isWrapper; first | (rw [if_pos (by decide +kernel)]; kernel_rfl) | (rw [if_neg (by decide +kernel)]; exact ⟨rfl, rfl⟩))
    (fun os started H enc _ => lifted os started H enc)
end bitsOne

theorem bitsOne_holds : Rows.BitsOneSaid := bitsOne.over
#print axioms bitsOne_holds
end Go.Proofs.Ytifbppjmdjdjbaa
