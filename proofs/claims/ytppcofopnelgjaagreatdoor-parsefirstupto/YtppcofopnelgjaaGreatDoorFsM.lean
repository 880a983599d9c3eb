import Derived.Test.YtppcofopnelgjaaGreatDoorRows
import Derived.Test.YtppcofopnelgjaaGreatDoorTie
import Derived.Test.YtppcofopnelgjaaGreatDoorCards
import Derived.Test.YtppcofopnelgjaaGreatDoorLcM
import Derived.Test.YtppcofopnelgjaaGreatDoorFsW
import Derived.Test.YtppcofopnelgjaaGreatDoorGrU
import Derived.ProofKit
import Derived.LaidMore
import Derived.LaidHandle
import Derived.LaidLaws
import Derived.MakeChecks
import Derived.Lay
import Derived.OpenShut
import Derived.ChangeOld
import Derived.JoinedCond
import Derived.Deep.Slices
import Derived.Stop.Joined
import Derived.SevenTiedAt
set_option linter.unusedVariables false
set_option linter.unusedSimpArgs false
namespace Go.Proofs.YtppcofopnelgjaaGreatDoor
open Go.ChangeShapes Go.WideShapes Go.ChangeAt Go.WideMaps Go.WideElems Go.RowKit
namespace parseFirst
open Wit
theorem own : ownKnob Tryz.prog.godebug = none := by kernel_rfl

theorem et : Tryz.prog.globalNamed "errors.errorType" = some 0 := by kernel_rfl
theorem rt : (Tryz.prog.cutTypes.find? (·.1 == "internal/reflectlite.rtype")).map (·.2) = some 142 := by kernel_rfl
theorem tsz : Tryz.prog.types.size = 338 := by kernel_rfl
theorem one : ((List.range 338).filter fun t => Tryz.prog.rowNamed t [101, 114, 114, 111, 114]) = [33] := by kernel_rfl
theorem th : typeHandle Tryz.prog 33 = hd 33 := by kernel_rfl
theorem plain_is : (Rows.parseFirstUptoRow.laid.filter fun x => x.2.handleName?.isNone) = plain := by kernel_rfl
theorem hand_is : (Rows.parseFirstUptoRow.laid.filter fun x => x.2.handleName?.isSome) = [("errors.errorType", Rows.laid_errors_errorType)] := by kernel_rfl
theorem halves {W : World} (h : laidMetH Tryz.prog Rows.parseFirstUptoRow.laid W) : laidMet Tryz.prog plain W ∧ handlesMet Tryz.prog [("errors.errorType", Rows.laid_errors_errorType)] W := by
  unfold laidMetH at h
  rw [plain_is, hand_is] at h
  exact h
theorem err_met {W : World} (h : laidMetH Tryz.prog Rows.parseFirstUptoRow.laid W) : W.cell? ⟨0, 0, none⟩ = some (ty 33) := by
  have hm : ∃ d ds, handlesMet Tryz.prog (("errors.errorType", d) :: ds) W ∧ d.funcsIn? = none ∧ d.handleName? = some [101, 114, 114, 111, 114] := ⟨_, _, (halves h).2, rfl, rfl⟩
  obtain ⟨d, ds, hm, hf, hn⟩ := hm
  have := hm _ (List.mem_cons_self ..)
  simp only [hf] at this
  obtain ⟨name, u, t, e1, e2, e3, e4, e5⟩ := this
  rw [hn] at e1
  obtain rfl := Option.some.inj e1
  rw [rt] at e2
  obtain rfl := Option.some.inj e2
  rw [tsz] at e3
  have hin : t ∈ [33] := by rw [← one]; exact List.mem_filter.2 ⟨List.mem_range.2 e3, e4⟩
  obtain rfl := List.mem_singleton.1 hin
  rw [th] at e5
  simpa [ty] using World.var?_cell et e5 0
theorem tbs {W : World} (h : laidMetH Tryz.prog Rows.parseFirstUptoRow.laid W) : TbB W.heap.size W := by
  have h' := (halves h).1
  have m1 : ("internal/strconv.optimize", Rows.laid_internal_strconv_optimize) ∈ plain := by simp [plain]
  have m2 : ("internal/strconv.float64info", Rows.laid_internal_strconv_float64info) ∈ plain := by simp [plain]
  have m3 : ("internal/strconv.float64pow10", Rows.laid_internal_strconv_float64pow10) ∈ plain := by simp [plain]
  refine tb_met h' m1 m2 m3 rfl (fun k hk => ?_)
  obtain rfl | rfl | rfl | rfl | rfl | rfl | rfl | rfl | rfl | rfl : k = 0 ∨ k = 1 ∨ k = 2 ∨ k = 3 ∨ k = 4 ∨ k = 5 ∨ k = 6 ∨ k = 7 ∨ k = 8 ∨ k = 9 := by omega
  all_goals kernel_rfl

set_option maxRecDepth 100000 in
theorem contract (H : Type) (enc : TypeId × Value → H) (W : World) (base : Nat) (args : Array Value) (ds gs : List (DataW H)) (before : List MemPlace)
    (hval : ∀ (j : Nat) t v, Tryz.f8.params[j]? = some t → args[j]? = some v → Value.okWide Tryz.prog W .any base t v)
    (hW : DataW.Whole enc Tryz.prog Tryz.f8.params.toList Rows.parseFirstSpec.vars false W args.toList ds gs before) (hk : Rows.uptoSmall H (ds ++ gs) = true) (hL : laidMetH Tryz.prog Rows.parseFirstUptoRow.laid W) :
    Calls Tryz.prog 8 args W fun e W' => ∃ v, e = .returned v ∧ Rows.parseFirstSpec.post enc Tryz.prog Tryz.f8 false true false false W args v W' := by
  have hW' := hW
  obtain ⟨p, q, hA0, hV, rfl, hfz, hnd⟩ := hW
  have hA : DataW.TrodAll enc Tryz.prog W 0 (fun _ => true) true Tryz.f8.params.toList args.toList ds p := hA0
  rw [Tryz.params8] at hA hval
  obtain ⟨v0, vs0, d0, ds0, p0, q0, hargs, rfl, rfl, h0, r0⟩ := trodAll_cons hA
  obtain ⟨rfl, rfl, rfl⟩ := trodAll_nil r0
  obtain rfl : args = #[v0] := by cases args; simp_all
  obtain ⟨rfl, rfl⟩ := trodVars_none hV
  obtain ⟨a0, len0, cap0, rfl⟩ := okWide_slice Tryz.underlying40 (hval 0 40 v0 rfl rfl)
  have k0 := h0
  have lt0 : ∀ x ∈ p0, x.block < W.heap.size := by obtain ⟨m, hm⟩ := k0; exact DataW.trod_lt m _ _ _ hm
  obtain ⟨la, rfl, hca, hna, ta, fa, sa⟩ := TkI.toks_in h0
  simp only [List.append_nil] at hk
  have hb : Rows.uptoBulkAll [d0] ≤ 1048576 := of_decide_eq_true hk
  simp only [Rows.uptoBulkAll] at hb
  clear hA0
  refine (Fs.first_walk la a0 cap0 W hca (by omega) (fun t ht => by have := sa t ht; omega) ta (tbs hL) (err_met hL)).mono fun e W' ⟨he, bel⟩ => ?_
  subst he
  exact ⟨_, rfl, _, _, _, [], _, [], hW', trodAll_mk1 (shut_bool Tryz.underlying4 _), (trodAll_cons_mk (Below.trod (by kernel_rfl) (by kernel_rfl) (of_decide_eq_true (by kernel_rfl)) k0 bel lt0) trodAll_mk0), rfl, bel.frame _, fun h => by cases h⟩
end parseFirst
end Go.Proofs.YtppcofopnelgjaaGreatDoor
