import Derived.Test.YtfgblchnnhdlnaaGreatDoorRows
import Derived.Test.YtfgblchnnhdlnaaGreatDoorTie
import Derived.Test.YtfgblchnnhdlnaaGreatDoorCards
import Derived.Test.YtfgblchnnhdlnaaGreatDoorGrCt
import Derived.Test.YtfgblchnnhdlnaaGreatDoorLcM
import Derived.Test.YtfgblchnnhdlnaaGreatDoorGrU
import Derived.ProofKit
import Derived.LaidMore
import Derived.LaidHandle
import Derived.LaidLaws
import Derived.MakeChecks
import Derived.Lay
import Derived.OpenShut
import Derived.ChangeOld
import Derived.JoinedCond
import Derived.Deep.Slices
import Derived.Stop.Joined
import Derived.SevenTiedAt
set_option linter.unusedVariables false
set_option linter.unusedSimpArgs false
namespace Go.Proofs.YtfgblchnnhdlnaaGreatDoor
open Go.ChangeShapes Go.WideShapes Go.ChangeAt Go.WideMaps Go.WideElems Go.RowKit
namespace parseCuts
open Wit
theorem own : ownKnob Tryz.prog.godebug = none := by kernel_rfl

theorem et : Tryz.prog.globalNamed "errors.errorType" = some 0 := by kernel_rfl
theorem rt : (Tryz.prog.cutTypes.find? (·.1 == "internal/reflectlite.rtype")).map (·.2) = some 142 := by kernel_rfl
theorem tsz : Tryz.prog.types.size = 338 := by kernel_rfl
theorem one : ((List.range 338).filter fun t => Tryz.prog.rowNamed t [101, 114, 114, 111, 114]) = [33] := by kernel_rfl
theorem th : typeHandle Tryz.prog 33 = hd 33 := by kernel_rfl
theorem plain_is : (Rows.parseCutsUptoRow.laid.filter fun x => x.2.handleName?.isNone) = plain := by kernel_rfl
theorem hand_is : (Rows.parseCutsUptoRow.laid.filter fun x => x.2.handleName?.isSome) = [("errors.errorType", Rows.laid_errors_errorType)] := by kernel_rfl
theorem halves {W : World} (h : laidMetH Tryz.prog Rows.parseCutsUptoRow.laid W) : laidMet Tryz.prog plain W ∧ handlesMet Tryz.prog [("errors.errorType", Rows.laid_errors_errorType)] W := by
  unfold laidMetH at h
  rw [plain_is, hand_is] at h
  exact h
theorem err_met {W : World} (h : laidMetH Tryz.prog Rows.parseCutsUptoRow.laid W) : W.cell? ⟨0, 0, none⟩ = some (ty 33) := by
  have hm : ∃ d ds, handlesMet Tryz.prog (("errors.errorType", d) :: ds) W ∧ d.funcsIn? = none ∧ d.handleName? = some [101, 114, 114, 111, 114] := ⟨_, _, (halves h).2, rfl, rfl⟩
  obtain ⟨d, ds, hm, hf, hn⟩ := hm
  have := hm _ (List.mem_cons_self ..)
  simp only [hf] at this
  obtain ⟨name, u, t, e1, e2, e3, e4, e5⟩ := this
  rw [hn] at e1
  obtain rfl := Option.some.inj e1
  rw [rt] at e2
  obtain rfl := Option.some.inj e2
  rw [tsz] at e3
  have hin : t ∈ [33] := by rw [← one]; exact List.mem_filter.2 ⟨List.mem_range.2 e3, e4⟩
  obtain rfl := List.mem_singleton.1 hin
  rw [th] at e5
  simpa [ty] using World.var?_cell et e5 0
theorem tbs {W : World} (h : laidMetH Tryz.prog Rows.parseCutsUptoRow.laid W) : TbB W.heap.size W := by
  have h' := (halves h).1
  have m1 : ("internal/strconv.optimize", Rows.laid_internal_strconv_optimize) ∈ plain := by simp [plain]
  have m2 : ("internal/strconv.float64info", Rows.laid_internal_strconv_float64info) ∈ plain := by simp [plain]
  have m3 : ("internal/strconv.float64pow10", Rows.laid_internal_strconv_float64pow10) ∈ plain := by simp [plain]
  refine tb_met h' m1 m2 m3 rfl (fun k hk => ?_)
  obtain rfl | rfl | rfl | rfl | rfl | rfl | rfl | rfl | rfl | rfl : k = 0 ∨ k = 1 ∨ k = 2 ∨ k = 3 ∨ k = 4 ∨ k = 5 ∨ k = 6 ∨ k = 7 ∨ k = 8 ∨ k = 9 := by omega
  all_goals kernel_rfl

set_option maxRecDepth 100000 in
theorem contract (H : Type) (enc : TypeId × Value → H) (W : World) (base : Nat) (args : Array Value) (ds gs : List (DataW H)) (before : List MemPlace)
    (hval : ∀ (j : Nat) t v, Tryz.f7.params[j]? = some t → args[j]? = some v → Value.okWide Tryz.prog W .any base t v)
    (hW : DataW.Whole enc Tryz.prog Tryz.f7.params.toList Rows.parseCutsSpec.vars false W args.toList ds gs before) (hk : Rows.uptoSmall H (ds ++ gs) = true) (hL : laidMetH Tryz.prog Rows.parseCutsUptoRow.laid W) :
    Calls Tryz.prog 7 args W fun e W' => ∃ v, e = .returned v ∧ Rows.parseCutsSpec.post enc Tryz.prog Tryz.f7 false true false false W args v W' := by
  have hW' := hW
  obtain ⟨p, q, hA0, hV, rfl, hfz, hnd⟩ := hW
  have hA : DataW.TrodAll enc Tryz.prog W 0 (fun _ => true) true Tryz.f7.params.toList args.toList ds p := hA0
  rw [Tryz.params7] at hA hval
  obtain ⟨v0, vs0, d0, ds0, p0, q0, hargs, rfl, rfl, h0, r0⟩ := trodAll_cons hA
  obtain ⟨v1, vs1, d1, ds1, p1, q1, rfl, rfl, rfl, h1, r1⟩ := trodAll_cons r0
  obtain ⟨v2, vs2, d2, ds2, p2, q2, rfl, rfl, rfl, h2, r2⟩ := trodAll_cons r1
  obtain ⟨v3, vs3, d3, ds3, p3, q3, rfl, rfl, rfl, h3, r3⟩ := trodAll_cons r2
  obtain ⟨v4, vs4, d4, ds4, p4, q4, rfl, rfl, rfl, h4, r4⟩ := trodAll_cons r3
  obtain ⟨rfl, rfl, rfl⟩ := trodAll_nil r4
  obtain rfl : args = #[v0, v1, v2, v3, v4] := by cases args; simp_all
  obtain ⟨rfl, rfl⟩ := trodVars_none hV
  obtain ⟨a0, len0, cap0, rfl⟩ := okWide_slice Tryz.underlying48 (hval 0 48 v0 rfl rfl)
  have k0 := h0
  have k1 := h1
  have k2 := h2
  have k3 := h3
  have k4 := h4
  have lt0 : ∀ x ∈ p0, x.block < W.heap.size := by obtain ⟨m, hm⟩ := k0; exact DataW.trod_lt m _ _ _ hm
  have lt1 : ∀ x ∈ p1, x.block < W.heap.size := by obtain ⟨m, hm⟩ := k1; exact DataW.trod_lt m _ _ _ hm
  have lt2 : ∀ x ∈ p2, x.block < W.heap.size := by obtain ⟨m, hm⟩ := k2; exact DataW.trod_lt m _ _ _ hm
  have lt3 : ∀ x ∈ p3, x.block < W.heap.size := by obtain ⟨m, hm⟩ := k3; exact DataW.trod_lt m _ _ _ hm
  have lt4 : ∀ x ∈ p4, x.block < W.heap.size := by obtain ⟨m, hm⟩ := k4; exact DataW.trod_lt m _ _ _ hm
  obtain ⟨la, rfl, hca, ta, fa, sa⟩ := ShI.shs_in h0
  obtain ⟨cut, rfl, _⟩ : ∃ n, v1 = .int .i64 n ∧ True := by
    obtain ⟨n, rfl, _⟩ := open_int Tryz.underlying3 (hval 1 3 v1 rfl rfl) h1
    exact ⟨n, rfl, trivial⟩
  obtain ⟨en, rfl, _⟩ : ∃ b, v2 = .bool b ∧ True := by
    obtain ⟨b, rfl, _⟩ := open_bool Tryz.underlying4 (hval 2 4 v2 rfl rfl) h2
    exact ⟨b, rfl, trivial⟩
  obtain ⟨el, rfl, _⟩ : ∃ n, v3 = .int .i64 n ∧ True := by
    obtain ⟨n, rfl, _⟩ := open_int Tryz.underlying3 (hval 3 3 v3 rfl rfl) h3
    exact ⟨n, rfl, trivial⟩
  obtain ⟨ec, rfl, _⟩ : ∃ n, v4 = .int .i64 n ∧ True := by
    obtain ⟨n, rfl, _⟩ := open_int Tryz.underlying3 (hval 4 3 v4 rfl rfl) h4
    exact ⟨n, rfl, trivial⟩
  simp only [List.append_nil] at hk
  have hb : Rows.uptoBulkAll [d0, d1, d2, d3, d4] ≤ 1048576 := of_decide_eq_true hk
  simp only [Rows.uptoBulkAll] at hb
  clear hA0
  refine (cuts_walk la a0 cap0 cut en el ec W hca ta (sa (by omega)) (by omega) (tbs hL) (err_met hL)).mono fun e W' ⟨he, bel⟩ => ?_
  subst he
  exact ⟨_, rfl, _, _, _, [], _, [], hW', trodAll_mk1 (shut_bool Tryz.underlying4 _), (trodAll_cons_mk (Below.trod (by kernel_rfl) (by kernel_rfl) (of_decide_eq_true (by kernel_rfl)) k0 bel lt0) (trodAll_cons_mk (Below.trod (by kernel_rfl) (by kernel_rfl) (of_decide_eq_true (by kernel_rfl)) k1 bel lt1) (trodAll_cons_mk (Below.trod (by kernel_rfl) (by kernel_rfl) (of_decide_eq_true (by kernel_rfl)) k2 bel lt2) (trodAll_cons_mk (Below.trod (by kernel_rfl) (by kernel_rfl) (of_decide_eq_true (by kernel_rfl)) k3 bel lt3) (trodAll_cons_mk (Below.trod (by kernel_rfl) (by kernel_rfl) (of_decide_eq_true (by kernel_rfl)) k4 bel lt4) trodAll_mk0))))), rfl, bel.frame _, fun h => by cases h⟩
end parseCuts
end Go.Proofs.YtfgblchnnhdlnaaGreatDoor
