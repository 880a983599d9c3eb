import Derived.Test.YtagdgbbomohooaaGreatDoorRows
import Derived.Test.YtagdgbbomohooaaGreatDoorTie
import Derived.Test.YtagdgbbomohooaaGreatDoorCards
import Derived.Test.YtagdgbbomohooaaGreatDoorEsX
import Derived.ProofKit
import Derived.LaidMore
import Derived.LaidHandle
import Derived.LaidLaws
import Derived.ChangeVars
import Derived.OpenShut
import Derived.SizedLaws
import Derived.ShutString
import Derived.ChangeOld
import Derived.Stop.Joined
import Derived.SevenTiedAt
set_option linter.unusedVariables false
namespace Go.Proofs.YtagdgbbomohooaaGreatDoor
open Go.ChangeShapes Go.WideShapes Go.ChangeAt Go.WideMaps Go.WideElems Go.RowKit
namespace lexEscape
open Go.ChangeMaps (open_string shut_string)
theorem wf64 {n : Int} (h : (Lit.int .i64 n).wf = true) : -9223372036854775808 ≤ n ∧ n ≤ 9223372036854775807 := by
  simp [Lit.wf, IntKind.min, IntKind.max, IntKind.bits, IntKind.signed] at h
  omega
theorem own : ownKnob Tryz.prog.godebug = none := by kernel_rfl

theorem et : Tryz.prog.globalNamed "errors.errorType" = some 0 := by kernel_rfl
theorem rt : (Tryz.prog.cutTypes.find? (·.1 == "internal/reflectlite.rtype")).map (·.2) = some 107 := by kernel_rfl
theorem tsz : Tryz.prog.types.size = 206 := by kernel_rfl
theorem one : ((List.range 206).filter fun t => Tryz.prog.rowNamed t [101, 114, 114, 111, 114]) = [29] := by kernel_rfl
theorem th : typeHandle Tryz.prog 29 = hd 29 := by kernel_rfl
/-- what the laid variables give: the first holds error's type -/
theorem err_met {W : World} (h : laidMetH Tryz.prog Rows.lexEscapeRow.laid W) : W.cell? ⟨0, 0, none⟩ = some (ty 29) := by
  have hm : ∃ d ds, handlesMet Tryz.prog (("errors.errorType", d) :: ds) W ∧ d.funcsIn? = none ∧ d.handleName? = some [101, 114, 114, 111, 114] := ⟨_, _, (show laidMet Tryz.prog _ W ∧ handlesMet Tryz.prog (("errors.errorType", Rows.laid_errors_errorType) :: []) W from h).2, rfl, rfl⟩
  obtain ⟨d, ds, hm, hf, hn⟩ := hm
  have := hm _ (List.mem_cons_self ..)
  simp only [hf] at this
  obtain ⟨name, u, t, e1, e2, e3, e4, e5⟩ := this
  rw [hn] at e1
  obtain rfl := Option.some.inj e1
  rw [rt] at e2
  obtain rfl := Option.some.inj e2
  rw [tsz] at e3
  have hin : t ∈ [29] := by rw [← one]; exact List.mem_filter.2 ⟨List.mem_range.2 e3, e4⟩
  obtain rfl := List.mem_singleton.1 hin
  rw [th] at e5
  simpa [ty] using World.var?_cell et e5 0
theorem door_met (os : Os) (args : Array Value) : laidMetH Tryz.prog Rows.lexEscapeRow.laid ((World.doorLaid Tryz.prog 2000 os).forCall (fun _ _ => 0) ⟨#[], args, []⟩).memory :=
  laidMetH_of_parts3 (fuel := 8) (laidMet_of_run' 8 (by kernel_rfl) (by kernel_rfl)) (by kernel_rfl) (by kernel_rfl)

set_option maxRecDepth 100000 in
theorem lifted (os : Os) (started : os.Started) (H : Type) (enc : TypeId × Value → H) :
    ReturnsInHanded {} Tryz.checked os 7 .any (fun w args => (Rows.lexEscapeSpec.pre enc Tryz.prog Tryz.f7 [] false w args ∧ laidMetH Tryz.prog Rows.lexEscapeRow.laid w) ∧ sizedMet enc Tryz.prog Tryz.f7 (OpenSpec.ofChange Rows.lexEscapeSpec) false w args)
      (Rows.lexEscapeSpec.post enc Tryz.prog Tryz.f7 false true false false) := by
  refine returnsInHanded_of_change_and (C := Tryz.checked) (X := fun w _ => laidMetH Tryz.prog Rows.lexEscapeRow.laid w) (fun _ _ _ hh h => h.of_heap hh) own started (by kernel_rfl) Tryz.func7
    (ChangeSpec.witness_shaped (enc := enc) (C := Tryz.checked) (os := os) (X := fun w _ => laidMetH Tryz.prog Rows.lexEscapeRow.laid w) false (World.doorLaid Tryz.prog 2000 os) #[.int .i64 0, .int .i64 0] 8 rfl (World.shaped_of_RefB (by kernel_rfl) (by kernel_rfl)) (by kernel_rfl) (by kernel_rfl) (by kernel_rfl) (door_met os _)) ?_
  intro W base args ds gs before hval0 hW hx1 hx2 hL hx3
  have hval : ∀ (j : Nat) t v, Tryz.f7.params[j]? = some t → args[j]? = some v → Value.okWide Tryz.prog W .any base t v := hval0
  have hW' := hW
  obtain ⟨p, q, hA0, hV, rfl, hfz, hnd⟩ := hW
  have hA : DataW.TrodAll enc Tryz.prog W 0 (fun _ => true) true Tryz.f7.params.toList args.toList ds p := hA0
  rw [Tryz.params7] at hA hval
  obtain ⟨v0, vs0, d0, ds0, p0, q0, hargs, rfl, rfl, h0, r0⟩ := trodAll_cons hA
  obtain ⟨v1, vs1, d1, ds1, p1, q1, rfl, rfl, rfl, h1, r1⟩ := trodAll_cons r0
  obtain ⟨rfl, rfl, rfl⟩ := trodAll_nil r1
  obtain rfl : args = #[v0, v1] := by cases args; simp_all
  obtain ⟨rfl, rfl⟩ := trodVars_none hV
  obtain ⟨x0, rfl, rfl, rfl, w0⟩ := open_int Tryz.underlying3 (hval 0 3 v0 rfl rfl) h0
  obtain ⟨x1, rfl, rfl, rfl, w1⟩ := open_int Tryz.underlying3 (hval 1 3 v1 rfl rfl) h1
  clear hA0 hval0
  simp only [List.append_nil] at hW'
  refine (escape_walk x0 x1 W (wf64 w0) (wf64 w1) (err_met hL)).mono fun e W' ⟨he, bel⟩ => ?_
  subst he
  exact ⟨_, rfl, _, _, _, [], [], [], hW', trodAll_mk1 (shut_bool Tryz.underlying4 _), (trodAll_cons_mk (shut_int Tryz.underlying3 w0) (trodAll_cons_mk (shut_int Tryz.underlying3 w1) trodAll_mk0)), rfl, bel.frame _, fun h => by cases h⟩

theorem row : Rows.LexEscapeSaid :=
  OpenClaim.holds_of_wide 7 Tryz.f7 rfl rfl rfl rfl rfl rfl rfl ⟨rfl, rfl, rfl, rfl, rfl⟩ rfl rfl rfl rfl rfl (by kernel_rfl) Tryz.func7 (by kernel_rfl)
    (of_decide_eq_true (by kernel_rfl)) (by unfold Func.isWrapper; first | (rw [if_pos (by decide +kernel)]; kernel_rfl) | (rw [if_neg (by decide +kernel)]; exact ⟨rfl, rfl⟩))
    (fun os started H enc _ => lifted os started H enc)
end lexEscape

theorem lexEscape_holds : Rows.LexEscapeCardSaid :=
  Claim7.holds_tied_plain_at .later [] _ _ _ _
    lexEscape.row (fun _ h => by cases h) (by kernel_rfl) (fun _ h => by cases h) lexEscape_row_tie rfl ⟨rfl, rfl⟩ (by kernel_rfl) rfl
    (fun f fn hf hfn => by
      have hname : Tryz.prog.funcNamed Rows.lexEscapeRow.func = some 7 := by kernel_rfl
      obtain rfl : f = 7 := Option.some.inj (hname.symm.trans hf) |>.symm
      obtain rfl : fn = Tryz.f7 := (Option.some.inj (Tryz.func7.symm.trans hfn)).symm
      exact ⟨by kernel_rfl, fun j t ht => by
        rw [Tryz.params7] at ht
        have hm : t ∈ [3, 3] := by simpa using Array.mem_of_getElem? ht
        have hall : ([3, 3].all fun u => !Tryz.prog.wantsStandIn u) = true := by kernel_rfl
        exact (show Tryz.prog.wantsStandIn t = false by simpa using List.all_eq_true.1 hall t hm)⟩)
    (by kernel_rfl)
#print axioms lexEscape_holds
end Go.Proofs.YtagdgbbomohooaaGreatDoor
