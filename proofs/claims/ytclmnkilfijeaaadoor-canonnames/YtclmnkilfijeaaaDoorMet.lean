import Derived.Test.YtclmnkilfijeaaaDoorNuQ
import Derived.Lib.LaidTab
import Derived.Lib.LaidU8
import Derived.FnData
import Derived.OpenShut
import Derived.KernelRfl
set_option linter.unusedVariables false
set_option linter.unusedSimpArgs false
namespace Go.Proofs.YtclmnkilfijeaaaDoor
open Go.RowKit
theorem g3 : Tryd.prog.globalNamed "internal/strconv.pow10Tab" = some 3 := by kernel_rfl
theorem gt2 : (Tryd.prog.globals[2]?).map (·.type) = some 71 := by kernel_rfl
theorem gt3 : (Tryd.prog.globals[3]?).map (·.type) = some 81 := by kernel_rfl
theorem cells31 : Tryd.prog.cellsOf 31 = 1 := by kernel_rfl
theorem cells71 : Tryd.prog.cellsOf 71 = 20 := by kernel_rfl
theorem cells80 : Tryd.prog.cellsOf 80 = 2 := by kernel_rfl
theorem u10_met {w : World} (h : Lib.VarReads Tryd.prog w "internal/strconv.uint64pow10" (Lib.tabData .u64 Lib.pow10Tab)) : Lib.TabIs Tryd.prog w "internal/strconv.uint64pow10" .u64 Lib.pow10Tab := by
  obtain ⟨g, t, cs, fuel, p, h1, h2, h3, h4⟩ := h
  rw [g2] at h1
  cases h1
  rw [gt2] at h2
  cases h2
  unfold Lib.TabIs
  rw [h3, ← Lib.cells_of_tab Tryd.underlying71 Tryd.underlying31 cells31 cells71 h4]
theorem rows_len : Go.Pinned.pow10Rows.length = 696 := by kernel_rfl
theorem pw_met {w : World} (h : Lib.VarReads Tryd.prog w "internal/strconv.pow10Tab" Go.Pinned.pow10Tab) (i : Nat) (hi : i < 696) :
    w.cell? ⟨3, i * 2, none⟩ = some (.int .u64 ((Go.Pinned.pow10Rows.getD i (0, 0)).1 : Nat)) ∧ w.cell? ⟨3, i * 2 + 1, none⟩ = some (.int .u64 ((Go.Pinned.pow10Rows.getD i (0, 0)).2 : Nat)) := by
  obtain ⟨g, t, cs, fuel, p, h1, h2, h3, h4⟩ := h
  rw [g3] at h1
  cases h1
  rw [gt3] at h2
  cases h2
  obtain ⟨xs, m, _, ex, _, hl, hel⟩ := DataW.trod_array Tryd.underlying81 h4
  have hE := hel i hi
  rw [cells80, List.getElem?_eq_getElem (by omega)] at hE
  obtain ⟨ys, k, _, ey, hcl, hyl, hf⟩ := DataW.trod_struct Tryd.underlying80 hE
  have hf0 : DataW.trod (fun _ => ()) Tryd.prog w _ _ _ k 31 ((((cs.toList.drop (i * 2)).take 2).drop 0).take (Tryd.prog.cellsOf 31)) = ys[0]? := hf 0 _ rfl
  have hf1 : DataW.trod (fun _ => ()) Tryd.prog w _ _ _ k 31 ((((cs.toList.drop (i * 2)).take 2).drop 1).take (Tryd.prog.cellsOf 31)) = ys[1]? := hf 1 _ rfl
  rw [cells31] at hf0 hf1
  obtain ⟨y0, y1, rfl⟩ : ∃ y0 y1, ys = [y0, y1] := by
    match ys, hyl with
    | [y0, y1], _ => exact ⟨y0, y1, rfl⟩
  simp only [List.getElem?_cons_zero, List.getElem?_cons_succ] at hf0 hf1
  obtain ⟨z0, a0, b0, _⟩ := DataW.trod_int Tryd.underlying31 hf0
  obtain ⟨z1, a1, b1, _⟩ := DataW.trod_int Tryd.underlying31 hf1
  have e3 : (xs.map (·.1)) = Go.Pinned.pow10Rows.map fun x => (DataW.agg [.lit (.int .u64 x.1), .lit (.int .u64 x.2)] : DataW Unit) := (DataW.agg.inj (Prod.mk.inj ex).1).symm
  have e4 := congrArg (fun l => l[i]?) e3
  simp only [List.getElem?_map] at e4
  rw [List.getElem?_eq_getElem (by omega : i < xs.length), List.getElem?_eq_getElem (by rw [rows_len]; exact hi), ey] at e4
  have hg : Go.Pinned.pow10Rows.getD i (0, 0) = Go.Pinned.pow10Rows[i]'(by rw [rows_len]; exact hi) := by
    rw [List.getD_eq_getElem?_getD, List.getElem?_eq_getElem (by rw [rows_len]; exact hi)]; rfl
  rw [hg]
  generalize Go.Pinned.pow10Rows[i]'(by rw [rows_len]; exact hi) = row at *
  subst b0 b1
  simp only [List.map_cons, List.map_nil, Option.map_some, Option.some.injEq, DataW.agg.injEq, List.cons.injEq, DataW.lit.injEq, Lit.int.injEq, true_and, and_true] at e4
  obtain ⟨q0, q1⟩ := e4
  subst q0 q1
  have c0 : cs.toList[i * 2]? = some (.int .u64 (row.1 : Int)) := by
      have h0 : ((((cs.toList.drop (i * 2)).take 2).drop 0).take 1)[0]? = some (.int .u64 (row.1 : Int)) := by rw [a0]; rfl
      simpa using h0
  have c1 : cs.toList[i * 2 + 1]? = some (.int .u64 (row.2 : Int)) := by
      have h0 : ((((cs.toList.drop (i * 2)).take 2).drop 1).take 1)[0]? = some (.int .u64 (row.2 : Int)) := by rw [a1]; rfl
      simpa using h0
  rw [World.var?_cell g3 h3 (i * 2), World.var?_cell g3 h3 (i * 2 + 1)]
  exact ⟨by simpa using c0, by simpa using c1⟩
theorem tb_met {w : World} {l : List (String × DataW Unit)} (h : laidMet Tryd.prog l w) (m1 : ("internal/strconv.uint64pow10", Lib.tabData .u64 Lib.pow10Tab) ∈ l) (m2 : ("internal/strconv.pow10Tab", Go.Pinned.pow10Tab) ∈ l) : Tb w := by
  have hp := pw_met (Lib.laidMet.reads h m2)
  refine ⟨World.block_lt_of_cell? w _ (hp 0 (by omega)).1, u10_met (Lib.laidMet.reads h m1), fun p hpp => ?_⟩
  exact hp (p + 348) (by omega)
end Go.Proofs.YtclmnkilfijeaaaDoor
