import Derived.Test.YtnlopepbcnegbaaGreatDoorScn
import Derived.Deep.RegionHeld3
set_option linter.unusedVariables false
set_option linter.unusedSimpArgs false
namespace Go.Proofs.YtnlopepbcnegbaaGreatDoor
open Go.RowKit

theorem Scn.step {T : Tx} {b i : Nat} {w W2 : World} (h : Scn T b i w) (hi : i < T.N) (bw : Below w.heap.size w W2) (l c : Int) (hlc : (l, c) = L.nxt ((T.g i).l, (T.g i).c) (T.g i).r) :
    Scn T b (i + 1) (((W2.setCell ⟨b, 4, none⟩ (.int .i64 l)).setCell ⟨b, 5, none⟩ (.int .i64 c)).setCell ⟨b, 3, none⟩ (.int .i64 ((i : Int) + 1))) ∧ Turn (fun k => k = b) w (((W2.setCell ⟨b, 4, none⟩ (.int .i64 l)).setCell ⟨b, 5, none⟩ (.int .i64 c)).setCell ⟨b, 3, none⟩ (.int .i64 ((i : Int) + 1))) := by
  have h2 := h.below bw
  have hst := (h.ok.good.step i hi).2.2.2
  obtain ⟨ok, le, lt, c0, c1, c2, c3, c4, c5, f, inn⟩ := h2
  have t2 : Turn (fun k => k = b) W2 (((W2.setCell ⟨b, 4, none⟩ (.int .i64 l)).setCell ⟨b, 5, none⟩ (.int .i64 c)).setCell ⟨b, 3, none⟩ (.int .i64 ((i : Int) + 1))) :=
    (((Turn.refl (fun k => k = b) _).setCell (p := ⟨b, 4, none⟩) (fun _ => rfl) _).setCell (p := ⟨b, 5, none⟩) (fun _ => rfl) _).setCell (p := ⟨b, 3, none⟩) (fun _ => rfl) _
  have hl : (T.g (i + 1)).l = l ∧ (T.g (i + 1)).c = c := by
    have e : ((T.g (i + 1)).l, (T.g (i + 1)).c) = (l, c) := by rw [hlc]; exact hst
    exact ⟨congrArg Prod.fst e, congrArg Prod.snd e⟩
  refine ⟨⟨ok, hi, Nat.lt_of_lt_of_le lt t2.size, ?_, ?_, ?_, ?_, ?_, ?_, fun k hk => ?_, inn.turn t2⟩, (turn_below bw).trans t2⟩
  · go_simp
  · go_simp
  · go_simp
  · go_simp
  · rw [hl.1]; go_simp
  · rw [hl.2]; go_simp
  · simp only [World.frozen?_setCell]; exact f k hk

set_option maxRecDepth 100000 in
set_option maxHeartbeats 1000000 in
theorem pass_any {T : Tx} {b i : Nat} {w : World} (h : Scn T b i w) (hi : i < T.N) :
    Calls Tryz.prog 75 #[.pointer (some ⟨b, 0, none⟩)] w fun e w' => e = .returned (.tuple #[]) ∧ Scn T b (i + 1) w' ∧ Turn (fun k => k = b) w w' := by
  have hf := h.ok.few
  have hbd := h.ok.bd i h.le
  have hst := h.ok.good.step i hi
  have Hs := hide' h
  obtain ⟨ok, le, lt, c0, c1, c2, c3, c4, c5, f, inn⟩ := h
  unfold Tx.rv at c1
  obtain ⟨rb, hro, hS, hl, hc⟩ := inn.rune i hi
  rw [hro] at c1
  have f3 := f 3 (by omega)
  have f4 := f 4 (by omega)
  have f5 := f 5 (by omega)
  have Hst := hide' hst
  clear ok inn f hst
  obtain ⟨X, hX⟩ : ∃ X, T.g i = X := ⟨_, rfl⟩
  rw [hX] at c4 c5 hc hbd
  obtain ⟨XS, Xr, Xl, Xc, Xa⟩ := X
  simp only at c4 c5 hc hbd
  have hne : Hid (rb ≠ b) := hS
  clear hS
  go_enter Tryz.func75, Tryz.ntmps75
  go_wp2
  go_region_with (go_at_call 85; refine (behind_any Xl Xc _ _ hbd.1 hbd.2).mono ?_; rintro e W2 ⟨rfl, bw⟩; have a3 := (bw.cell (p := ⟨b, 3, none⟩) lt).trans c3; have a4 := (bw.cell (p := ⟨b, 4, none⟩) lt).trans c4; have a5 := (bw.cell (p := ⟨b, 5, none⟩) lt).trans c5; have g3 := (bw.frozen (p := ⟨b, 3, none⟩) lt).trans f3; have g4 := (bw.frozen (p := ⟨b, 4, none⟩) lt).trans f4; have g5 := (bw.frozen (p := ⟨b, 5, none⟩) lt).trans f5)
  all_goals
    have bw' : Below w.heap.size w W2 := ⟨bw.os, bw.tape, bw.output, bw.size, bw.block⟩
    have hfin := Hs.out.step hi bw' (L.nxt (Xl, Xc) Xr).1 (L.nxt (Xl, Xc) Xr).2 (by rw [hX])
    clear hX bw
    go_wp2
    go_end0
    exact ⟨rfl, hfin.1, hfin.2⟩
end Go.Proofs.YtnlopepbcnegbaaGreatDoor
