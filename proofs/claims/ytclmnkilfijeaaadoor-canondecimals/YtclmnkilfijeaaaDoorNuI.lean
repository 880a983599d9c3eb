import Derived.Test.YtclmnkilfijeaaaDoorNuH
set_option linter.unusedVariables false
set_option linter.unusedSimpArgs false
namespace Go.Proofs.YtclmnkilfijeaaaDoor
open Go.RowKit
set_option maxRecDepth 100000 in
set_option maxHeartbeats 8000000 in
theorem fmt_one (B g0 g cap b : Nat) (w0 w : World) (h : RowB B g0 w0 [] g cap w) (hc : w.cell? ⟨b, 0, none⟩ = some (.int .u8 49)) :
    Calls Tryd.prog 21 #[.slice (some ⟨g, 0, none⟩) 0 cap, .bool false, .slice (some ⟨b, 0, none⟩) 32 32, .int .i64 1, .int .i64 1, .int .i64 0, .int .u8 102, .bool true] w fun e w' =>
      ∃ g' cap', e = .returned (.slice (some ⟨g', 0, none⟩) 1 cap') ∧ RowB B g0 w0 [49] g' cap' w' := by
  obtain ⟨i0, hi, hz0, hz1, hz2⟩ := info_parts info5
  have H := hide' h
  clear h
  go_enter Tryd.func21, Tryd.ntmps21
  go_wp2_with (at_builtin; refine stay_app _ _ _ rfl ?_)
  go_loopw [0, 191] (fun v i wx => ∃ (k g' c' : Nat) (l : List UInt8), k ≤ 1 ∧ i = .int .i64 (k : Int) ∧ v = .slice (some ⟨g', 0, none⟩) l.length c' ∧ Hid (RowB B g0 w0 l g' c' wx) ∧ ((k = 0 ∧ l = [] ∧ wx.cell? ⟨b, 0, none⟩ = some (.int .u8 49)) ∨ (k = 1 ∧ l = [49]))) (fun _ i _ => 1 - (intOf i).toNat)
  case atStart => exact ⟨0, g, cap, [], by omega, rfl, rfl, H.out, .inl ⟨rfl, rfl, hc⟩⟩
  case round =>
    clear hc H
    obtain ⟨k, g5, c5, l, hk, rfl, rfl, HQ, ⟨rfl, rfl, hc⟩ | ⟨rfl, rfl⟩⟩ := hrel
    · go_wp2_with (at_builtin; refine stay_app _ _ _ rfl ?_)
      unfold Stay
      refine wpList_append_lies _ rfl _ _ 33 rfl B 5 i0 (.int .u8 0) 1 1 Tryd.underlying33 hi hz0 hz1 hz2 rfl (by decide) _ _ _ rfl (HQ.out.row.alloc _) ⟨wr.heap.size, 0, none⟩ 1 1 [.int .u8 49] rfl rfl (one_new _ _ _) (by simp [Value.oneCell']) (by decide) (by have := HQ.out.short; unfold maxLen; omega) (by have := HQ.out.short; omega) (by have := HQ.out.le'; simp; omega) (wr.heap.size + 1) (by simp) ?_
      intro g6 rc6 w6 hrow6 hgrow6 hat6 hlt6
      have H6 := hide' (HQ.out.grow 49 _ hrow6 hgrow6 hat6 (by simp))
      clear hrow6 hgrow6 hat6 hlt6
      go_wp2_with (fail)
      exact ⟨⟨1, g6, rc6, [49], by omega, by simp, by simp, H6.out, .inr ⟨rfl, rfl⟩⟩, by simp [intOf]⟩
    · go_wp2_with (fail)
      go_loopw [0, 203] (fun v i wx => v = .slice (some ⟨g5, 0, none⟩) 1 c5 ∧ i = .int .i64 0 ∧ wx = wr) (fun _ _ _ => 0)
      case atStart => exact ⟨rfl, rfl, rfl⟩
      case round =>
        obtain ⟨rfl, rfl, rfl⟩ := hrel
        go_wp2_with (fail)
        go_ret
        exact ⟨g5, c5, rfl, HQ.out⟩
end Go.Proofs.YtclmnkilfijeaaaDoor
