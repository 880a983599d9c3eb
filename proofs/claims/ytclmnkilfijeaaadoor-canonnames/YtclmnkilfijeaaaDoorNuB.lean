import Derived.Test.YtclmnkilfijeaaaDoorNuA
set_option linter.unusedVariables false
set_option linter.unusedSimpArgs false
namespace Go.Proofs.YtclmnkilfijeaaaDoor
open Go.RowKit
/-- what the table of powers holds at p -/
def PwAt (w : World) (p h l : Nat) : Prop := w.cell? ⟨3, (p + 348) * 2, none⟩ = some (.int .u64 h) ∧ w.cell? ⟨3, (p + 348) * 2 + 1, none⟩ = some (.int .u64 l)
set_option maxRecDepth 100000 in
set_option maxHeartbeats 4000000 in
theorem prescale_any (b h l p lp s : Nat) (E : Int) (w : World) (hb : b ≠ 3) (hp : p ≤ 340) (hE : -1200 ≤ E) (hE2 : E ≤ 0) (hlp : lp ≤ 1200) (hs : (s : Int) = -(E + lp + 3)) 
    (c0 : w.cell? ⟨b, 0, none⟩ = some (.int .u64 0)) (c1 : w.cell? ⟨b, 1, none⟩ = some (.int .u64 0)) (c2 : w.cell? ⟨b, 2, none⟩ = some (.int .i64 0)) (f0 : w.frozen? ⟨b, 0, none⟩ = false) (f1 : w.frozen? ⟨b, 1, none⟩ = false) (f2 : w.frozen? ⟨b, 2, none⟩ = false) (hT : PwAt w p h l) :
    Calls Tryd.prog 36 #[.pointer (some ⟨b, 0, none⟩), .int .i64 E, .int .i64 p, .int .i64 lp] w fun e w' => e = .returned (.tuple #[]) ∧ w'.cell? ⟨b, 0, none⟩ = some (.int .u64 h) ∧ w'.cell? ⟨b, 1, none⟩ = some (.int .u64 l) ∧ w'.cell? ⟨b, 2, none⟩ = some (.int .i64 s) ∧ Turn (fun k => k = b) w w' := by
  obtain ⟨t0, t1⟩ := hT
  have hbn : ¬ (3 = b) := fun e => hb e.symm
  go_enter Tryd.func36, Tryd.ntmps36
  go_wp2
  go_end0
  have n01 : (⟨b, 0, none⟩ : Addr) ≠ ⟨b, 1, none⟩ := by simp
  have n02 : (⟨b, 0, none⟩ : Addr) ≠ ⟨b, 2, none⟩ := by simp
  have n12 : (⟨b, 1, none⟩ : Addr) ≠ ⟨b, 2, none⟩ := by simp
  refine ⟨rfl, ?_, ?_, ?_, ?_⟩
  · rw [World.cell?_setCell_other _ _ _ _ n02.symm, World.cell?_setCell_other _ _ _ _ n01.symm, World.cell?_setCell_same _ _ _ c0]
  · rw [World.cell?_setCell_other _ _ _ _ n12.symm]
    exact World.cell?_setCell_same _ _ _ (by rw [World.cell?_setCell_other _ _ _ _ n01]; exact c1)
  · rw [World.cell?_setCell_same _ _ _ (by rw [World.cell?_setCell_other _ _ _ _ n12, World.cell?_setCell_other _ _ _ _ n02]; exact c2), hs]
  · exact (((Turn.refl (fun k => k = b) w).setCell (p := ⟨b, 0, none⟩) (fun _ => rfl) _).setCell (p := ⟨b, 1, none⟩) (fun _ => rfl) _).setCell (p := ⟨b, 2, none⟩) (fun _ => rfl) _
theorem usc_pos {x h l s : Nat} (hx : 9223372036854775808 ≤ x) (hx2 : x < 18446744073709551616) (hh : 9223372036854775808 ≤ h) (hh2 : h < 18446744073709551616) (hs : s ≤ 60) : 1 ≤ Fp.usc x h l s := by
  have h1 : 4611686018427387904 ≤ x * h / 18446744073709551616 := by
    rw [Nat.le_div_iff_mul_le (by omega)]
    exact Nat.le_trans (by decide) (Nat.mul_le_mul hx hh)
  have h2 : x * h / 18446744073709551616 < 18446744073709551616 := by rw [Nat.div_lt_iff_lt_mul (by omega)]; exact Nat.mul_lt_mul'' hx2 hh2
  unfold Fp.usc
  simp only
  generalize x * h / 18446744073709551616 = hi at *
  have hp : 2 ^ s ≤ 2 ^ 60 := Nat.pow_le_pow_right (by omega) hs
  have e60 : (2 : Nat) ^ 60 = 1152921504606846976 := by decide
  split
  · refine Nat.le_trans ?_ Nat.right_le_or
    exact Nat.le_refl _
  · refine Nat.le_trans ?_ Nat.left_le_or
    rw [Nat.le_div_iff_mul_le (Nat.two_pow_pos _), Nat.one_mul]
    split <;> omega
end Go.Proofs.YtclmnkilfijeaaaDoor
