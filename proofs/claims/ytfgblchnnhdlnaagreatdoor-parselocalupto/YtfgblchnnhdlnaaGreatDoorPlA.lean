import Derived.Test.YtfgblchnnhdlnaaGreatDoorRows
import Derived.Test.YtfgblchnnhdlnaaGreatDoorTie
import Derived.Test.YtfgblchnnhdlnaaGreatDoorCards
import Derived.Test.YtfgblchnnhdlnaaGreatDoorGrTo
import Derived.Test.YtfgblchnnhdlnaaGreatDoorLcM
import Derived.Test.YtfgblchnnhdlnaaGreatDoorGrU
import Derived.ProofKit
import Derived.LaidMore
import Derived.LaidHandle
import Derived.LaidLaws
import Derived.MakeChecks
import Derived.Lay
import Derived.OpenShut
import Derived.ChangeOld
import Derived.JoinedCond
import Derived.Deep.Slices
import Derived.Stop.Joined
import Derived.SevenTiedAt
set_option linter.unusedVariables false
set_option linter.unusedSimpArgs false
namespace Go.Proofs.YtfgblchnnhdlnaaGreatDoor
open Go.ChangeShapes Go.WideShapes Go.ChangeAt Go.WideMaps Go.WideElems Go.RowKit
namespace parseLocal
open Wit
theorem own : ownKnob Tryz.prog.godebug = none := by kernel_rfl

theorem et : Tryz.prog.globalNamed "errors.errorType" = some 0 := by kernel_rfl
theorem rt : (Tryz.prog.cutTypes.find? (·.1 == "internal/reflectlite.rtype")).map (·.2) = some 142 := by kernel_rfl
theorem tsz : Tryz.prog.types.size = 338 := by kernel_rfl
theorem one : ((List.range 338).filter fun t => Tryz.prog.rowNamed t [101, 114, 114, 111, 114]) = [33] := by kernel_rfl
theorem th : typeHandle Tryz.prog 33 = hd 33 := by kernel_rfl
theorem plain_is : (Rows.parseLocalUptoRow.laid.filter fun x => x.2.handleName?.isNone) = plain := by kernel_rfl
theorem hand_is : (Rows.parseLocalUptoRow.laid.filter fun x => x.2.handleName?.isSome) = [("errors.errorType", Rows.laid_errors_errorType)] := by kernel_rfl
theorem halves {W : World} (h : laidMetH Tryz.prog Rows.parseLocalUptoRow.laid W) : laidMet Tryz.prog plain W ∧ handlesMet Tryz.prog [("errors.errorType", Rows.laid_errors_errorType)] W := by
  unfold laidMetH at h
  rw [plain_is, hand_is] at h
  exact h
theorem err_met {W : World} (h : laidMetH Tryz.prog Rows.parseLocalUptoRow.laid W) : W.cell? ⟨0, 0, none⟩ = some (ty 33) := by
  have hm : ∃ d ds, handlesMet Tryz.prog (("errors.errorType", d) :: ds) W ∧ d.funcsIn? = none ∧ d.handleName? = some [101, 114, 114, 111, 114] := ⟨_, _, (halves h).2, rfl, rfl⟩
  obtain ⟨d, ds, hm, hf, hn⟩ := hm
  have := hm _ (List.mem_cons_self ..)
  simp only [hf] at this
  obtain ⟨name, u, t, e1, e2, e3, e4, e5⟩ := this
  rw [hn] at e1
  obtain rfl := Option.some.inj e1
  rw [rt] at e2
  obtain rfl := Option.some.inj e2
  rw [tsz] at e3
  have hin : t ∈ [33] := by rw [← one]; exact List.mem_filter.2 ⟨List.mem_range.2 e3, e4⟩
  obtain rfl := List.mem_singleton.1 hin
  rw [th] at e5
  simpa [ty] using World.var?_cell et e5 0
theorem tbs {W : World} (h : laidMetH Tryz.prog Rows.parseLocalUptoRow.laid W) : TbB W.heap.size W := by
  have h' := (halves h).1
  have m1 : ("internal/strconv.optimize", Rows.laid_internal_strconv_optimize) ∈ plain := by simp [plain]
  have m2 : ("internal/strconv.float64info", Rows.laid_internal_strconv_float64info) ∈ plain := by simp [plain]
  have m3 : ("internal/strconv.float64pow10", Rows.laid_internal_strconv_float64pow10) ∈ plain := by simp [plain]
  refine tb_met h' m1 m2 m3 rfl (fun k hk => ?_)
  obtain rfl | rfl | rfl | rfl | rfl | rfl | rfl | rfl | rfl | rfl : k = 0 ∨ k = 1 ∨ k = 2 ∨ k = 3 ∨ k = 4 ∨ k = 5 ∨ k = 6 ∨ k = 7 ∨ k = 8 ∨ k = 9 := by omega
  all_goals kernel_rfl

set_option maxRecDepth 100000 in
theorem tok_in {H : Type} {enc : TypeId × Value → H} {W : World} {v : Value} {d : DataW H} {ps : List MemPlace} {b0 base : Nat} {spare : Nat → Bool} {held : Bool} (hval : Value.okWide Tryz.prog W .any b0 44 v)
    (h : DataW.Trod enc Tryz.prog W base spare held 44 v d ps) : ∃ k s l c, v = .agg #[.int .i8 k, .string s, .int .i64 l, .int .i64 c] ∧ s.size ≤ Rows.uptoBulk d := by
  obtain ⟨f0, f1, f2, f3, he, ⟨o0, o1, o2, o3⟩, ⟨t0, t1, t2, t3⟩⟩ := TkI.fields44
  obtain ⟨cs, rfl, hcs⟩ := okWide_struct Tryz.underlying44 hval
  rw [TkI.cells44] at hcs
  obtain ⟨fuel, hf⟩ := h
  obtain ⟨xs, k, hk, hxy, _, hxl, hff⟩ := DataW.trod_struct he hf
  obtain ⟨cl⟩ := cs
  simp [Value.cells] at hff hcs
  match xs, hxl, cl, hcs with
  | [y0, y1, y2, y3], _, [v0, v1, v2, v3], _ =>
    have g0 := hff 0 f0 rfl
    have g1 := hff 1 f1 rfl
    have g2 := hff 2 f2 rfl
    have g3 := hff 3 f3 rfl
    simp [o0, o1, o2, o3, t0, t1, t2, t3, TkI.cells3, TkI.cells42, TkI.cells9] at g0 g1 g2 g3
    obtain ⟨n0, hv0, _, _⟩ := DataW.trod_int Tryz.underlying42 g0
    obtain ⟨s1, hv1, hy1, _⟩ := DataW.trod_string Tryz.underlying9 g1
    obtain ⟨n2, hv2, _, _⟩ := DataW.trod_int Tryz.underlying3 g2
    obtain ⟨n3, hv3, _, _⟩ := DataW.trod_int Tryz.underlying3 g3
    simp at hv0 hv1 hv2 hv3
    subst hv0 hv1 hv2 hv3
    refine ⟨n0, s1, n2, n3, rfl, ?_⟩
    have hd : d = (d, ps).1 := rfl
    rw [hd, hxy, hy1]
    simp only [List.map_cons, List.map_nil, Rows.uptoBulk, Rows.uptoBulkAll]
    have := ShI.str_len s1
    omega
set_option maxRecDepth 100000 in
theorem contract (H : Type) (enc : TypeId × Value → H) (W : World) (base : Nat) (args : Array Value) (ds gs : List (DataW H)) (before : List MemPlace)
    (hval : ∀ (j : Nat) t v, Tryz.f9.params[j]? = some t → args[j]? = some v → Value.okWide Tryz.prog W .any base t v)
    (hW : DataW.Whole enc Tryz.prog Tryz.f9.params.toList Rows.parseLocalSpec.vars false W args.toList ds gs before) (hk : Rows.uptoSmall H (ds ++ gs) = true) (hL : laidMetH Tryz.prog Rows.parseLocalUptoRow.laid W) :
    Calls Tryz.prog 9 args W fun e W' => ∃ v, e = .returned v ∧ Rows.parseLocalSpec.post enc Tryz.prog Tryz.f9 false true false false W args v W' := by
  have hW' := hW
  obtain ⟨p, q, hA0, hV, rfl, hfz, hnd⟩ := hW
  have hA : DataW.TrodAll enc Tryz.prog W 0 (fun _ => true) true Tryz.f9.params.toList args.toList ds p := hA0
  rw [Tryz.params9] at hA hval
  obtain ⟨v0, vs0, d0, ds0, p0, q0, hargs, rfl, rfl, h0, r0⟩ := trodAll_cons hA
  obtain ⟨v1, vs1, d1, ds1, p1, q1, rfl, rfl, rfl, h1, r1⟩ := trodAll_cons r0
  obtain ⟨v2, vs2, d2, ds2, p2, q2, rfl, rfl, rfl, h2, r2⟩ := trodAll_cons r1
  obtain ⟨v3, vs3, d3, ds3, p3, q3, rfl, rfl, rfl, h3, r3⟩ := trodAll_cons r2
  obtain ⟨rfl, rfl, rfl⟩ := trodAll_nil r3
  obtain rfl : args = #[v0, v1, v2, v3] := by cases args; simp_all
  obtain ⟨rfl, rfl⟩ := trodVars_none hV
  obtain ⟨a0, len0, cap0, rfl⟩ := okWide_slice Tryz.underlying48 (hval 0 48 v0 rfl rfl)
  obtain ⟨a3, len3, cap3, rfl⟩ := okWide_slice Tryz.underlying40 (hval 3 40 v3 rfl rfl)
  have k0 := h0
  have k1 := h1
  have k2 := h2
  have k3 := h3
  have lt0 : ∀ x ∈ p0, x.block < W.heap.size := by obtain ⟨m, hm⟩ := k0; exact DataW.trod_lt m _ _ _ hm
  have lt1 : ∀ x ∈ p1, x.block < W.heap.size := by obtain ⟨m, hm⟩ := k1; exact DataW.trod_lt m _ _ _ hm
  have lt2 : ∀ x ∈ p2, x.block < W.heap.size := by obtain ⟨m, hm⟩ := k2; exact DataW.trod_lt m _ _ _ hm
  have lt3 : ∀ x ∈ p3, x.block < W.heap.size := by obtain ⟨m, hm⟩ := k3; exact DataW.trod_lt m _ _ _ hm
  obtain ⟨la, rfl, hca, ta, fa, sa⟩ := ShI.shs_in h0
  obtain ⟨cut, rfl, _⟩ : ∃ n, v1 = .int .i64 n ∧ True := by
    obtain ⟨n, rfl, _⟩ := open_int Tryz.underlying3 (hval 1 3 v1 rfl rfl) h1
    exact ⟨n, rfl, trivial⟩
  obtain ⟨bk, bt, bl, bc, rfl, hbt⟩ := tok_in (hval 2 44 v2 rfl rfl) h2
  obtain ⟨lm, rfl, hcm, hnm, tm, fm, sm⟩ := TkI.toks_in h3
  simp only [List.append_nil] at hk
  have hb : Rows.uptoBulkAll [d0, d1, d2, d3] ≤ 1048576 := of_decide_eq_true hk
  simp only [Rows.uptoBulkAll] at hb
  clear hA0
  refine (local_walk la a0 cap0 cut bk bt bl bc lm a3 cap3 W hca ta (sa (by omega)) (by omega) (tbs hL) (err_met hL) (by omega) tm hnm (by omega) (fun t ht => by have := sm t ht; omega) hcm).mono fun e W' ⟨he, bel⟩ => ?_
  subst he
  exact ⟨_, rfl, _, _, _, [], _, [], hW', trodAll_mk1 (shut_bool Tryz.underlying4 _), (trodAll_cons_mk (Below.trod (by kernel_rfl) (by kernel_rfl) (of_decide_eq_true (by kernel_rfl)) k0 bel lt0) (trodAll_cons_mk (Below.trod (by kernel_rfl) (by kernel_rfl) (of_decide_eq_true (by kernel_rfl)) k1 bel lt1) (trodAll_cons_mk (Below.trod (by kernel_rfl) (by kernel_rfl) (of_decide_eq_true (by kernel_rfl)) k2 bel lt2) (trodAll_cons_mk (Below.trod (by kernel_rfl) (by kernel_rfl) (of_decide_eq_true (by kernel_rfl)) k3 bel lt3) trodAll_mk0)))), rfl, bel.frame _, fun h => by cases h⟩
end parseLocal
end Go.Proofs.YtfgblchnnhdlnaaGreatDoor
