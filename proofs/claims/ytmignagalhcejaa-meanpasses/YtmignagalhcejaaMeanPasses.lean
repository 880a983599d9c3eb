import Derived.Test.YtmignagalhcejaaFrame
import Derived.Test.YtmignagalhcejaaMnW
set_option linter.unusedVariables false
namespace Go.Proofs.Ytmignagalhcejaa
namespace meanPasses
open Go.ChangeShapes Go.WideShapes Go.ChangeAt Go.RowKit
theorem trod_float {H : Type} {enc : TypeId × Value → H} {P : Program} {w : World} {base : Nat} {spare : Nat → Bool} {held : Bool} {fuel : Nat} {t : TypeId} {cs : List Value} {x : DataW H × List MemPlace} {k : FloatKind} (ht : P.underlying t = some (.float k)) (h : DataW.trod enc P w base spare held fuel t cs = some x) : ∃ n, cs = [.float k n] := by
  cases fuel with
  | zero => simp [DataW.trod] at h
  | succ n =>
    unfold DataW.trod at h
    rw [ht] at h
    split at h <;> simp_all
theorem fields27 : ∃ f0 f1 f2 f3 f4 f5 : Field, Try.prog.underlying 27 = some (.struct #[f0, f1, f2, f3, f4, f5]) ∧ (f4.offset = 4 ∧ f5.offset = 5) ∧ (f4.type = 23 ∧ f5.type = 24) := ⟨_, _, _, _, _, _, Try.underlying27, ⟨rfl, rfl⟩, ⟨rfl, rfl⟩⟩
theorem cells27 : Try.prog.cellsOf 27 = 6 := by kernel_rfl
theorem cells23 : Try.prog.cellsOf 23 = 1 := by kernel_rfl
theorem cells24 : Try.prog.cellsOf 24 = 1 := by kernel_rfl
set_option maxRecDepth 100000 in
theorem rule_in {H : Type} {enc : TypeId × Value → H} {W : World} {v : Value} {d : DataW H} {ps : List MemPlace} {base b : Nat} {spare : Nat → Bool} {held : Bool} (hv : Value.okWide Try.prog W .any b 27 v)
    (h : DataW.Trod enc Try.prog W base spare held 27 v d ps) : ∃ c0 c1 c2 c3 cd lv, v = .agg #[c0, c1, c2, c3, .int .i8 cd, .float .f64 lv] := by
  obtain ⟨f0, f1, f2, f3, f4, f5, he, ⟨o4, o5⟩, ⟨t4, t5⟩⟩ := fields27
  obtain ⟨cs, rfl, hsz⟩ := okWide_struct he hv
  rw [cells27] at hsz
  obtain ⟨fuel, hf⟩ := h
  obtain ⟨xs, k, hk, hxy, _, hxl, hff⟩ := DataW.trod_struct he hf
  obtain ⟨cl⟩ := cs
  match cl, hsz with
  | [c0, c1, c2, c3, c4, c5], _ =>
    match xs, hxl with
    | [y0, y1, y2, y3, y4, y5], _ =>
      have g4 := hff 4 f4 rfl
      have g5 := hff 5 f5 rfl
      simp [o4, o5, t4, t5, cells23, cells24, Value.cells] at g4 g5
      obtain ⟨n, hn, _⟩ := DataW.trod_int Try.underlying23 g4
      obtain ⟨lv, hl⟩ := trod_float Try.underlying24 g5
      simp at hn hl
      subst hn hl
      exact ⟨c0, c1, c2, c3, n, lv, rfl⟩
set_option maxRecDepth 100000 in
theorem lifted (os : Os) (started : os.Started) (H : Type) (enc : TypeId × Value → H) :
    ReturnsInHanded {} Try.checked os 4 .any (Rows.meanPassesSpec.pre6 enc Try.prog Try.f4 Rows.meanPassesRow.domain false) (Rows.meanPassesSpec.post enc Try.prog Try.f4 false true false false) := by
  refine returnsInHanded_of_change (C := Try.checked) own started (by kernel_rfl) Try.func4
    (ChangeSpec.witness6 (enc := enc) (C := Try.checked) false ⟨#[], #[.agg #[.bool false, .string ByteArray.empty, .string ByteArray.empty, .slice none 0 0, .int .i8 0, .float .f64 0], .float .f64 0], []⟩ 8 (by kernel_rfl) (by kernel_rfl) (by kernel_rfl) (by kernel_rfl)) ?_
  intro W base args ds gs before hval0 hW hcnd _
  have hval : ∀ (j : Nat) t v, Try.f4.params[j]? = some t → args[j]? = some v → Value.okWide Try.prog W .any base t v := hval0
  have hW' := hW
  obtain ⟨p, q, hA0, hV, rfl, hfz, hnd⟩ := hW
  have hA : DataW.TrodAll enc Try.prog W 0 (fun _ => true) true Try.f4.params.toList args.toList ds p := hA0
  rw [Try.params4] at hA hval
  obtain ⟨v0, vs0, d0, ds0, p0, q0, hargs, rfl, rfl, h0, r0⟩ := trodAll_cons hA
  obtain ⟨v1, vs1, d1, ds1, p1, q1, rfl, rfl, rfl, h1, r1⟩ := trodAll_cons r0
  obtain ⟨rfl, rfl, rfl⟩ := trodAll_nil r1
  obtain rfl : args = #[v0, v1] := by cases args; simp_all
  obtain ⟨rfl, rfl⟩ := trodVars_none hV
  have k0 := h0
  have lt0 : ∀ x ∈ p0, x.block < W.heap.size := by obtain ⟨m, hm⟩ := k0; exact DataW.trod_lt m _ _ _ hm
  obtain ⟨c0, c1, c2, c3, cd, lv, rfl⟩ := rule_in (hval 0 27 v0 rfl rfl) h0
  obtain ⟨tr, rfl, rfl, rfl, wx⟩ := open_float Try.underlying24 (hval 1 24 v1 rfl rfl) h1
  clear hA0 hval0
  refine (M.meanPasses_walk c0 c1 c2 c3 cd lv tr W).mono fun e W' ⟨he, bel⟩ => ?_
  subst he
  exact ⟨_, rfl, _, _, _, [], _, [], hW', trodAll_mk1 (shut_bool Try.underlying4 _), (trodAll_cons_mk (Below.trod laidOut (by kernel_rfl) (of_decide_eq_true (by kernel_rfl)) k0 bel lt0) (trodAll_cons_mk (shut_float Try.underlying24 wx) trodAll_mk0)), rfl, bel.frame _, fun h => by cases h⟩

theorem over : Rows.meanPassesRow.holds Try.pinned (OpenSpec.ofChange Rows.meanPassesSpec) :=
  OpenClaim.holds_of_wide 4 Try.f4 rfl rfl rfl rfl rfl rfl rfl ⟨rfl, rfl, rfl, rfl, rfl⟩ rfl rfl rfl rfl rfl (by kernel_rfl) Try.func4 (by kernel_rfl)
    (of_decide_eq_true (by kernel_rfl)) (by unfold Func.isWrapper; first | (rw [if_pos (by decide +kernel)]; kernel_rfl) | (rw [if_neg (by decide +kernel)]; exact ⟨rfl, rfl⟩))
    (fun os started H enc _ => lifted os started H enc)
end meanPasses

theorem meanPasses_holds : Rows.MeanPassesSaid := meanPasses.over
#print axioms meanPasses_holds
end Go.Proofs.Ytmignagalhcejaa
