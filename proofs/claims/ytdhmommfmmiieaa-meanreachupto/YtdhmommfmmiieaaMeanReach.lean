import Derived.Test.YtdhmommfmmiieaaFrame
import Derived.Test.YtdhmommfmmiieaaPol3
import Derived.Test.YtdhmommfmmiieaaMrc
set_option linter.unusedVariables false
set_option linter.unusedSimpArgs false
namespace Go.Proofs.Ytdhmommfmmiieaa
namespace meanReach
open Go.ChangeShapes Go.WideShapes Go.ChangeAt Go.RowKit Go.Deep
set_option maxRecDepth 100000 in
theorem contract (H : Type) (enc : TypeId × Value → H) (W : World) (base : Nat) (args : Array Value) (ds gs : List (DataW H)) (before : List MemPlace)
    (hval : ∀ (j : Nat) t v, Try.f14.params[j]? = some t → args[j]? = some v → Value.okWide Try.prog W .any base t v)
    (hW : DataW.Whole enc Try.prog Try.f14.params.toList Rows.meanReachSpec.vars false W args.toList ds gs before) (hk : Rows.uptoSmall H (ds ++ gs) = true) :
    Calls Try.prog 14 args W fun e W' => ∃ v, e = .returned v ∧ Rows.meanReachSpec.post enc Try.prog Try.f14 false true false false W args v W' := by
  have hW' := hW
  obtain ⟨p, q, hA0, hV, rfl, hfz, hnd⟩ := hW
  have hA : DataW.TrodAll enc Try.prog W 0 (fun _ => true) true Try.f14.params.toList args.toList ds p := hA0
  rw [Try.params14] at hA hval
  obtain ⟨v0, vs0, d0, ds0, p0, q0, hargs, rfl, rfl, h0, r0⟩ := trodAll_cons hA
  obtain ⟨v1, vs1, d1, ds1, p1, q1, rfl, rfl, rfl, h1, r1⟩ := trodAll_cons r0
  obtain ⟨v2, vs2, d2, ds2, p2, q2, rfl, rfl, rfl, h2, r2⟩ := trodAll_cons r1
  obtain ⟨rfl, rfl, rfl⟩ := trodAll_nil r2
  obtain rfl : args = #[v0, v1, v2] := by cases args; simp_all
  obtain ⟨rfl, rfl⟩ := trodVars_none hV
  have k0 := h0
  have lt0 : ∀ x ∈ p0, x.block < W.heap.size := by obtain ⟨m, hm⟩ := k0; exact DataW.trod_lt m _ _ _ hm
  obtain ⟨cs0, rfl, hs0⟩ := okWide_struct Try.underlying34 (hval 0 34 v0 rfl rfl)
  rw [Pin.cells34] at hs0
  have k1 := h1
  have lt1 : ∀ x ∈ p1, x.block < W.heap.size := by obtain ⟨m, hm⟩ := k1; exact DataW.trod_lt m _ _ _ hm
  obtain ⟨cs1, rfl, hs1⟩ := okWide_struct Try.underlying27 (hval 1 27 v1 rfl rfl)
  rw [Pin.cells27] at hs1
  have k2 := h2
  have lt2 : ∀ x ∈ p2, x.block < W.heap.size := by obtain ⟨m, hm⟩ := k2; exact DataW.trod_lt m _ _ _ hm
  obtain ⟨cs2, rfl, hs2⟩ := okWide_struct Try.underlying36 (hval 2 36 v2 rfl rfl)
  rw [Pin.cells36] at hs2
  simp only [List.append_nil] at hk
  have hb : Rows.uptoBulk d0 + Rows.uptoBulk d1 + Rows.uptoBulk d2 ≤ 1048576 := by
    have hb : Rows.uptoBulkAll [d0, d1, d2] ≤ 1048576 := of_decide_eq_true hk
    simp only [Rows.uptoBulkAll] at hb
    omega
  obtain ⟨m0, hm0⟩ := h0
  obtain ⟨F, hF, hIn, hFi, hm2, hp2, hu2, hx2, hrl⟩ := Pin.pol_in3 (cs := cs0.toList) (by simpa using hs0) hm0 (by show Rows.uptoBulk d0 ≤ _; omega)
  obtain rfl : cs0 = F.arr := by rw [← hF]
  replace hFi : U.Fine F (Rows.uptoBulk d0) := hFi
  obtain ⟨m1, hm1⟩ := h1
  obtain ⟨R, hR, hRb, hRo⟩ := Pin.dec27s _ _ _ _ cs1.toList _ (by simpa using hs1) hm1
  obtain rfl : cs1 = R.cells.toArray := by rw [← hR]
  replace hRb : Pin.rmv R ≤ Rows.uptoBulk d1 := hRb
  obtain ⟨m2, hm2⟩ := h2
  obtain ⟨tq, hT, hTb⟩ := Pin.tri_in (cs := cs2.toList) (by simpa using hs2) hm2
  obtain rfl : cs2 = #[.string tq.1, .string tq.2.1, .string tq.2.2] := by rw [← Array.toList_inj, hT]; rfl
  replace hTb : tq.1.size + tq.2.1.size + tq.2.2.size < Rows.uptoBulk d2 := hTb
  clear hA0 hm0 hm1 hm2
  refine (show Calls Try.prog 14 #[.agg F.arr, .agg R.cells.toArray, .agg #[.string tq.1, .string tq.2.1, .string tq.2.2]] W (fun e w' => e = .returned (.bool true) ∧ Below W.heap.size W w') from by
    obtain ⟨bv, hbv⟩ := hRo.2
    obtain ⟨r1, r2, r3, r4⟩ := Pin.rmv_le hRb
    have wk := U.meanReach_walk F (Rows.uptoBulk d0) R bv tq W hIn hFi hbv hRo.1 ⟨by omega, by omega, by omega⟩ ⟨by omega, by omega, by omega⟩
    have ec : R.cells.toArray = #[.bool bv, .string R.who, .string R.what, .slice R.ro R.rl.length R.rc, .int .i8 R.cd, .float .f64 R.lv] := by unfold U.Ru.cells; rw [hbv]
    rw [← ec] at wk
    exact wk).mono fun e W' ⟨he, bel⟩ => ?_
  subst he
  exact ⟨_, rfl, _, _, _, [], _, [], hW', trodAll_mk1 (shut_bool Try.underlying4 _), (trodAll_cons_mk (Below.trod laidOut (by kernel_rfl) (of_decide_eq_true (by kernel_rfl)) k0 bel lt0) (trodAll_cons_mk (Below.trod laidOut (by kernel_rfl) (of_decide_eq_true (by kernel_rfl)) k1 bel lt1) (trodAll_cons_mk (Below.trod laidOut (by kernel_rfl) (of_decide_eq_true (by kernel_rfl)) k2 bel lt2) trodAll_mk0))), rfl, bel.frame _, fun h => by cases h⟩
set_option maxRecDepth 100000 in
theorem lifted (os : Os) (started : os.Started) (H : Type) (enc : TypeId × Value → H) (F : Stop.Interp) :
    ReturnsInHanded {} Try.checked os 14 .any ((Rows.OpenSpec.upto Rows.meanReachSpec).pre6 enc Try.prog Try.f14 Rows.meanReachUptoRow.domain false) (((Rows.OpenSpec.upto Rows.meanReachSpec).at F).post enc Try.prog Try.f14 false true false false) := by
  refine returnsInHanded_of_cond (C := Try.checked) (s := Rows.OpenSpec.upto Rows.meanReachSpec) (k := Rows.uptoSmall) rfl own started (by kernel_rfl) Try.func14
    (OpenSpec.witness (enc := enc) (C := Try.checked) (s := Rows.OpenSpec.upto Rows.meanReachSpec) (k := Rows.uptoSmall) rfl false ⟨#[], #[.agg #[.slice none 0 0, .slice none 0 0, .slice none 0 0, .slice none 0 0, .slice none 0 0, .slice none 0 0, .slice none 0 0, .slice none 0 0, .slice none 0 0, .slice none 0 0, .slice none 0 0], .agg #[.bool false, .string ByteArray.empty, .string ByteArray.empty, .slice none 0 0, .int .i8 0, .float .f64 0], .agg #[.string ByteArray.empty, .string ByteArray.empty, .string ByteArray.empty]], []⟩ 8 (by kernel_rfl) (by kernel_rfl) (by kernel_rfl)
      (x := ([.agg [.nil, .nil, .nil, .nil, .nil, .nil, .nil, .nil, .nil, .nil, .nil], .agg [.lit (.bool false), .lit (.string []), .lit (.string []), .nil, .lit (.int .i8 0), .lit (.float .f64 0)], .agg [.lit (.string []), .lit (.string []), .lit (.string [])]], [], [])) (by kernel_rfl) rfl (by kernel_rfl)) ?_
  intro W base args ds gs before hval hW _ hk _
  exact contract H enc W base args ds gs before hval hW hk

theorem over : Rows.MeanReachUptoSaid :=
  OpenClaim.holds_of_cond 14 Try.f14 rfl rfl rfl rfl rfl rfl rfl ⟨rfl, rfl, rfl, rfl, rfl⟩ rfl rfl rfl rfl rfl (by kernel_rfl) Try.func14 (by kernel_rfl)
    (of_decide_eq_true (by kernel_rfl)) (by unfold Func.isWrapper; first | (rw [if_pos (by decide +kernel)]; kernel_rfl) | (rw [if_neg (by decide +kernel)]; exact ⟨rfl, rfl⟩))
    (fun os started H enc _ F => lifted os started H enc F)
end meanReach

theorem meanReach_holds : Rows.MeanReachUptoSaid := meanReach.over
#print axioms meanReach_holds
end Go.Proofs.Ytdhmommfmmiieaa
