import Derived.Test.YtfgblchnnhdlnaaGreatDoorGrI
set_option linter.unusedVariables false
set_option linter.unusedSimpArgs false
namespace Go.Proofs.YtfgblchnnhdlnaaGreatDoor
open Go.RowKit
theorem row_cells {w : World} {B : Nat} {e : TypeId} {size : Nat} {v : Value} {n : Nat} {xs : List Value} (h : w.ownsRow B e size v n xs) (hn : 0 < n) :
    ∃ g cap, v = .slice (some ⟨g, 0, none⟩) n cap ∧ n ≤ cap ∧ B ≤ g ∧ g < w.heap.size ∧ ∀ j u, xs[j]? = some u → w.cell? ⟨g, j, none⟩ = some u := by
  rcases h.2 with ⟨_, h2⟩ | ⟨g, cap, cur, hv, hB, hg, hc, hrest⟩
  · omega
  · subst hv
    have hcells := h.cells rfl
    refine ⟨g, cap, rfl, hc, hB, (h.lt g rfl).2, fun j u hj => ?_⟩
    have := hcells j u hj
    rw [addr_add] at this
    exact this
theorem alive_cells {B : Nat} {ps : List (R.Dc × Value)} {v : Value} {w : World} (h : Dcs B ps v w) (hp : aliveD = ps.map Prod.fst) :
    ∃ g cap h1 k1 a4 k4, v = .slice (some ⟨g, 0, none⟩) 5 cap ∧ 5 ≤ cap ∧ w.cell? ⟨g, 0, none⟩ = some (.int .i8 3) ∧ w.cell? ⟨g, 22, none⟩ = some (.slice (some ⟨h1, 0, none⟩) 2 k1) ∧ w.cell? ⟨g, 25, none⟩ = some (.float .f64 4602678819172646912) ∧ w.cell? ⟨h1, 3, none⟩ = some (.string ⟨#[99]⟩) ∧ w.cell? ⟨g, 29, none⟩ = some (.string ⟨#[98]⟩) ∧ w.cell? ⟨g, 45, none⟩ = some (.string ⟨#[100]⟩) ∧ w.cell? ⟨g, 49, none⟩ = some (.bool true) ∧ w.cell? ⟨g, 50, none⟩ = some (.int .i8 2) ∧ w.cell? ⟨g, 51, none⟩ = some (.float .f64 4607182418800017408) ∧ w.cell? ⟨g, 53, none⟩ = some (.int .i64 5) ∧ w.cell? ⟨g, 61, none⟩ = some (.slice a4 1 k4) := by
  have hl : ps.length = 5 := by have := congrArg List.length hp; simpa [aliveD] using this.symm
  match ps, hl with
  | [(d0, s0), (d1, s1), (d2, s2), (d3, s3), (d4, s4)], _ =>
    simp only [aliveD, List.map_cons, List.map_nil, List.cons.injEq, and_true] at hp
    obtain ⟨rfl, rfl, rfl, rfl, rfl⟩ := hp
    obtain ⟨g, cap, rfl, hc, _, _, hcell⟩ := row_cells h.row (by simp)
    obtain ⟨h1, k1, e1, _, _, _, n1⟩ := row_cells (h.names _ (List.mem_cons_of_mem _ (List.mem_cons_self ..))) (by simp)
    obtain ⟨a4, k4, e4⟩ := row_form (h.names _ (List.mem_cons_of_mem _ (List.mem_cons_of_mem _ (List.mem_cons_of_mem _ (List.mem_cons_of_mem _ (List.mem_cons_self ..))))))
    simp only at e1 e4
    subst e1 e4
    exact ⟨g, cap, h1, k1, a4, k4, rfl, hc, hcell 0 _ rfl, hcell 22 _ rfl, hcell 25 _ rfl, n1 3 _ rfl, hcell 29 _ rfl, hcell 45 _ rfl, hcell 49 _ rfl, hcell 50 _ rfl, hcell 51 _ rfl, hcell 53 _ rfl, hcell 61 _ rfl⟩
set_option maxRecDepth 100000 in
set_option maxHeartbeats 4000000 in
theorem alive_any (B : Nat) (w : World) (hT : TbB B w) :
    Calls Tryz.prog 11 #[] w fun e w' => e = .returned (.bool true) ∧ Below w.heap.size w w' := by
  have HP := hide' (parse_alive B w hT)
  unfold aliveT at HP
  have f1 : (FloatKind.f64.format.order 4602678819172646912 4602678819172646912 == some .eq) = true := by kernel_rfl
  have f2 : (FloatKind.f64.format.order 4607182418800017408 4607182418800017408 == some .eq) = true := by kernel_rfl
  go_enter Tryz.func11, Tryz.ntmps11
  go_wp2_with (go_at_call 13; refine HP.out.mono ?_; rintro e w1 ⟨⟨ps, v, rfl, hps, hd⟩, b1⟩; obtain ⟨g, cap, h1, k1, a4, k4, rfl, hc, c0, c22, c25, ch, c29, c45, c49, c50, c51, c53, c61⟩ := alive_cells hd hps; have B1 := hide' b1; clear hd hps b1)
  go_ret
  exact ⟨rfl, B1.out⟩
set_option maxRecDepth 100000 in
theorem parseNames_walk (B : Nat) (w : World) (hT : TbB B w) : Calls Tryz.prog 3 #[] w fun e w' => e = .returned (.bool true) ∧ Below w.heap.size w w' := by
  have HA := hide' (alive_any B w hT)
  clear hT
  go_enter Tryz.func3, Tryz.ntmps3
  go_wp2_with (go_at_call 11; refine HA.out.mono ?_; rintro e w1 ⟨rfl, b1⟩)
  go_ret
  exact ⟨rfl, b1⟩
end Go.Proofs.YtfgblchnnhdlnaaGreatDoor
