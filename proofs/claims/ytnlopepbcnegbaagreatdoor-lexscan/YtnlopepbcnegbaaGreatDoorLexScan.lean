import Derived.Test.YtnlopepbcnegbaaGreatDoorRows
import Derived.Test.YtnlopepbcnegbaaGreatDoorTie
import Derived.Test.YtnlopepbcnegbaaGreatDoorCards
import Derived.Test.YtnlopepbcnegbaaGreatDoorJG
import Derived.ProofKit
import Derived.LaidMore
import Derived.LaidHandle
import Derived.LaidLaws
import Derived.OpenShut
import Derived.SizedLaws
import Derived.ShutString
import Derived.ChangeOld
import Derived.Stop.Joined
import Derived.SevenTiedAt
set_option linter.unusedVariables false
namespace Go.Proofs.YtnlopepbcnegbaaGreatDoor
open Go.ChangeShapes Go.WideShapes Go.ChangeAt Go.WideMaps Go.WideElems Go.RowKit
namespace lexScan
open Go.ChangeMaps (open_string shut_string)
theorem wf_bd {n : Int} (h : (Lit.int .i64 n).wf = true) : -9223372036854775808 ≤ n ∧ n ≤ 9223372036854775807 := by
  simp [Lit.wf, IntKind.min, IntKind.max, IntKind.bits, IntKind.signed] at h
  omega
theorem own : ownKnob Tryz.prog.godebug = none := by kernel_rfl

theorem et : Tryz.prog.globalNamed "errors.errorType" = some 0 := by kernel_rfl
theorem rt : (Tryz.prog.cutTypes.find? (·.1 == "internal/reflectlite.rtype")).map (·.2) = some 107 := by kernel_rfl
theorem tsz : Tryz.prog.types.size = 206 := by kernel_rfl
theorem one : ((List.range 206).filter fun t => Tryz.prog.rowNamed t [101, 114, 114, 111, 114]) = [29] := by kernel_rfl
theorem th : typeHandle Tryz.prog 29 = hd 29 := by kernel_rfl
/-- what the laid variables give: the first holds error's type -/
theorem err_met {W : World} (h : laidMetH Tryz.prog Rows.lexScanRow.laid W) : W.cell? ⟨0, 0, none⟩ = some (ty 29) := by
  have hm : ∃ d ds, handlesMet Tryz.prog (("errors.errorType", d) :: ds) W ∧ d.funcsIn? = none ∧ d.handleName? = some [101, 114, 114, 111, 114] := ⟨_, _, (show laidMet Tryz.prog _ W ∧ handlesMet Tryz.prog (("errors.errorType", Rows.laid_errors_errorType) :: []) W from h).2, rfl, rfl⟩
  obtain ⟨d, ds, hm, hf, hn⟩ := hm
  have := hm _ (List.mem_cons_self ..)
  simp only [hf] at this
  obtain ⟨name, u, t, e1, e2, e3, e4, e5⟩ := this
  rw [hn] at e1
  obtain rfl := Option.some.inj e1
  rw [rt] at e2
  obtain rfl := Option.some.inj e2
  rw [tsz] at e3
  have hin : t ∈ [29] := by rw [← one]; exact List.mem_filter.2 ⟨List.mem_range.2 e3, e4⟩
  obtain rfl := List.mem_singleton.1 hin
  rw [th] at e5
  simpa [ty] using World.var?_cell et e5 0
theorem door_met (os : Os) (args : Array Value) : laidMetH Tryz.prog Rows.lexScanRow.laid ((World.doorLaid Tryz.prog 2000 os).forCall (fun _ _ => 0) ⟨#[], args, []⟩).memory :=
  laidMetH_of_parts3 (fuel := 8) (laidMet_of_run' 8 (by kernel_rfl) (by kernel_rfl)) (by kernel_rfl) (by kernel_rfl)

set_option maxRecDepth 100000 in
theorem lifted (os : Os) (started : os.Started) (H : Type) (enc : TypeId × Value → H) :
    ReturnsInHanded {} Tryz.checked os 3 .any (fun w args => (Rows.lexScanSpec.pre enc Tryz.prog Tryz.f3 [] false w args ∧ laidMetH Tryz.prog Rows.lexScanRow.laid w) ∧ sizedMet enc Tryz.prog Tryz.f3 (OpenSpec.ofChange Rows.lexScanSpec) false w args)
      (Rows.lexScanSpec.post enc Tryz.prog Tryz.f3 false true false false) := by
  refine returnsInHanded_of_change_and (C := Tryz.checked) (X := fun w _ => laidMetH Tryz.prog Rows.lexScanRow.laid w) (fun _ _ _ hh h => h.of_heap hh) own started (by kernel_rfl) Tryz.func3
    (ChangeSpec.witness_shaped (enc := enc) (C := Tryz.checked) (os := os) (X := fun w _ => laidMetH Tryz.prog Rows.lexScanRow.laid w) false (World.doorLaid Tryz.prog 2000 os) #[.string .empty] 8 rfl (World.shaped_of_RefB (by kernel_rfl) (by kernel_rfl)) (by kernel_rfl) (by kernel_rfl) (by kernel_rfl) (door_met os _)) ?_
  intro W base args ds gs before hval0 hW hx1 hx2 hL hx3
  have hval : ∀ (j : Nat) t v, Tryz.f3.params[j]? = some t → args[j]? = some v → Value.okWide Tryz.prog W .any base t v := hval0
  have hW' := hW
  obtain ⟨p, q, hA0, hV, rfl, hfz, hnd⟩ := hW
  have hA : DataW.TrodAll enc Tryz.prog W 0 (fun _ => true) true Tryz.f3.params.toList args.toList ds p := hA0
  rw [Tryz.params3] at hA hval
  obtain ⟨v0, vs0, d0, ds0, p0, q0, hargs, rfl, rfl, h0, r0⟩ := trodAll_cons hA
  obtain ⟨rfl, rfl, rfl⟩ := trodAll_nil r0
  obtain rfl : args = #[v0] := by cases args; simp_all
  obtain ⟨rfl, rfl⟩ := trodVars_none hV
  obtain ⟨s, rfl, rfl, rfl, hmax⟩ := open_string Tryz.underlying9 (hval 0 9 v0 rfl rfl) h0
  clear hA0 hval0
  simp only [List.append_nil] at hW'
  have hs : Hid (s.size ≤ 140737488355328) := by
    have hb := sized_string hx2 (j := 0) (t := 9) (bytes := s.data.toList) (by rw [Tryz.params3]; rfl) rfl
    have e : s.data.toList.length = s.size := by rw [Array.length_toList]; rfl
    rw [e] at hb
    have hr : reachBytes ≤ 140737488355328 := by decide
    show _ ≤ _
    exact Nat.le_trans hb hr
  refine (Sx.scan_law s W (Nat.le_trans hs.out (by unfold maxLen; decide)) (err_met hL)).mono fun e W' ⟨he, bel⟩ => ?_
  subst he
  exact ⟨_, rfl, _, _, _, [], [], [], hW', trodAll_mk1 (shut_bool Tryz.underlying4 _), (trodAll_cons_mk (shut_string Tryz.underlying9 hmax) trodAll_mk0), rfl, bel.frame _, fun h => by cases h⟩

theorem row : Rows.LexScanSaid :=
  OpenClaim.holds_of_wide 3 Tryz.f3 rfl rfl rfl rfl rfl rfl rfl ⟨rfl, rfl, rfl, rfl, rfl⟩ rfl rfl rfl rfl rfl (by kernel_rfl) Tryz.func3 (by kernel_rfl)
    (of_decide_eq_true (by kernel_rfl)) (by unfold Func.isWrapper; first | (rw [if_pos (by decide +kernel)]; kernel_rfl) | (rw [if_neg (by decide +kernel)]; exact ⟨rfl, rfl⟩))
    (fun os started H enc _ => lifted os started H enc)
end lexScan

theorem lexScan_holds : Rows.LexScanCardSaid :=
  Claim7.holds_tied_plain_at .later [] _ _ _ _
    lexScan.row (fun _ h => by cases h) (by kernel_rfl) (fun _ h => by cases h) lexScan_row_tie rfl ⟨rfl, rfl⟩ (by kernel_rfl) rfl
    (fun f fn hf hfn => by
      have hname : Tryz.prog.funcNamed Rows.lexScanRow.func = some 3 := by kernel_rfl
      obtain rfl : f = 3 := Option.some.inj (hname.symm.trans hf) |>.symm
      obtain rfl : fn = Tryz.f3 := (Option.some.inj (Tryz.func3.symm.trans hfn)).symm
      exact ⟨by kernel_rfl, fun j t ht => by
        rw [Tryz.params3] at ht
        have hm : t ∈ [9] := by simpa using Array.mem_of_getElem? ht
        have hall : ([9].all fun u => !Tryz.prog.wantsStandIn u) = true := by kernel_rfl
        exact (show Tryz.prog.wantsStandIn t = false by simpa using List.all_eq_true.1 hall t hm)⟩)
    (by kernel_rfl)
#print axioms lexScan_holds
end Go.Proofs.YtnlopepbcnegbaaGreatDoor
