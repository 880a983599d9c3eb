import Derived.Test.YtkipcdjadmocaaaRefM2
set_option linter.unusedVariables false
set_option linter.unusedSimpArgs false
namespace Go.Proofs.Ytkipcdjadmocaaa
open Go.RowKit
/-- a slice of small numbers -/
def Is8s (w : World) (a : Option Addr) (len cap : Nat) (ns : List Nat) : Prop :=
  len ≤ cap ∧ cap ≤ maxLen ∧ ns.length = len ∧ (len = 0 ∨ ∃ b off, a = some ⟨b, off, none⟩ ∧ b < w.heap.size ∧ ∀ j, j < len → w.cell? ⟨b, off + j, none⟩ = some (.int .i8 (ns.getD j 0 : Nat)))
set_option maxHeartbeats 1000000 in
set_option maxRecDepth 100000 in
/-- two slices of the same small numbers -/
theorem same8_any (a b : Option Addr) (len ca cb : Nat) (ns : List Nat) (w : World) (ha : Is8s w a len ca ns) (hb : Is8s w b len cb ns) : Calls Try.prog 17 #[.slice a len ca, .slice b len cb] w fun e w' => e = .returned (.bool true) ∧ ∃ n, w' = w.drewN n := by
  obtain ⟨a1, a2, a3, a4⟩ := ha
  obtain ⟨b1, b2, b3, b4⟩ := hb
  unfold maxLen at a2 b2
  have Hc : Hid (∀ j, j < len → ∃ x off y offb, a = some ⟨x, off, none⟩ ∧ b = some ⟨y, offb, none⟩ ∧ w.cell? ⟨x, off + j, none⟩ = some (.int .i8 (ns.getD j 0 : Nat)) ∧ w.cell? ⟨y, offb + j, none⟩ = some (.int .i8 (ns.getD j 0 : Nat))) := fun j hj => by
    rcases a4 with q | ⟨x, off, rfl, _, hc⟩
    · exfalso; omega
    · rcases b4 with q | ⟨y, offb, rfl, _, hd⟩
      · exfalso; omega
      · exact ⟨x, off, y, offb, rfl, rfl, ⟨hc j hj, hd j hj⟩⟩
  clear a4 b4 a3 b3
  go_enter Try.func17, Try.ntmps17
  go_wp2
  go_loopw [5] (fun i wx => ∃ k n : Nat, k ≤ len ∧ i = .int .i64 (k : Int) ∧ wx = w.drewN n) (fun i _ => len - (intOf i).toNat)
  case atStart => exact ⟨0, 0, by omega, rfl, rfl⟩
  case round =>
    obtain ⟨k, n, hk, rfl, rfl⟩ := hrel
    by_cases hlt : k < len
    · have hlt' : (k : Int) < (len : Int) := by omega
      obtain ⟨x, off, y, offb, rfl, rfl, c1, c2⟩ := Hc.out k hlt
      generalize ns.getD k 0 = z at *
      go_wp2
      go_quiet (fail)
      go_wp2
      exact ⟨⟨k + 1, n + nq, by omega, by go_num, rfl⟩, by simp [intOf]; omega⟩
    · have hkl : k = len := by omega
      subst hkl
      have hlt' : ¬ (k : Int) < (k : Int) := by omega
      go_wp2
      go_ret
      exact ⟨rfl, n, rfl⟩
set_option maxHeartbeats 1000000 in
set_option maxRecDepth 100000 in
theorem rfold_any (a : Nat → Int) (w : World) : Calls Try.prog 51 #[.agg #[.int .i8 (a 0), .int .i8 (a 1), .int .i8 (a 2), .int .i8 (a 3), .int .i8 (a 4), .int .i8 (a 5), .int .i8 (a 6), .int .i8 (a 7), .int .i8 (a 8), .int .i8 (a 9), .int .i8 (a 10), .int .i8 (a 11), .int .i8 (a 12), .int .i8 (a 13), .int .i8 (a 14), .int .i8 (a 15)]] w fun e w' => e = .returned (.int .u16 (mb (fun i => !decide (a i = 0)) : Nat)) ∧ Below w.heap.size w w' := by
  have Hp := hide' (fun i hi w => power_any i hi w)
  have H0 := hide' (upTo_zero (fun i => !decide (a i = 0)))
  have H16 := hide' (upTo_all (fun i => !decide (a i = 0)))
  have Hn := hide' (upTo_no (fun i => !decide (a i = 0)))
  have Hy := hide' (upTo_yes (fun i => !decide (a i = 0)))
  have Hlt := hide' (fun k => mb_lt (upTo (fun i => !decide (a i = 0)) k))
  go_enter Try.func51, Try.ntmps51
  go_wp2
  have hb1 := heap_alloc_new w (.cells #[.int .i8 (a 0), .int .i8 (a 1), .int .i8 (a 2), .int .i8 (a 3), .int .i8 (a 4), .int .i8 (a 5), .int .i8 (a 6), .int .i8 (a 7), .int .i8 (a 8), .int .i8 (a 9), .int .i8 (a 10), .int .i8 (a 11), .int .i8 (a 12), .int .i8 (a 13), .int .i8 (a 14), .int .i8 (a 15)] 41)
  have hc : ∀ j, j < 16 → (w.alloc (.cells #[.int .i8 (a 0), .int .i8 (a 1), .int .i8 (a 2), .int .i8 (a 3), .int .i8 (a 4), .int .i8 (a 5), .int .i8 (a 6), .int .i8 (a 7), .int .i8 (a 8), .int .i8 (a 9), .int .i8 (a 10), .int .i8 (a 11), .int .i8 (a 12), .int .i8 (a 13), .int .i8 (a 14), .int .i8 (a 15)] 41)).cell? ⟨w.heap.size, j, none⟩ = some (.int .i8 (a j)) := fun j hj => by
    rw [Lib.cell_of_heap hb1]
    rcases (by omega : j = 0 ∨ j = 1 ∨ j = 2 ∨ j = 3 ∨ j = 4 ∨ j = 5 ∨ j = 6 ∨ j = 7 ∨ j = 8 ∨ j = 9 ∨ j = 10 ∨ j = 11 ∨ j = 12 ∨ j = 13 ∨ j = 14 ∨ j = 15) with rfl | rfl | rfl | rfl | rfl | rfl | rfl | rfl | rfl | rfl | rfl | rfl | rfl | rfl | rfl | rfl <;> rfl
  have hbl : Below w.heap.size w (w.alloc (.cells #[.int .i8 (a 0), .int .i8 (a 1), .int .i8 (a 2), .int .i8 (a 3), .int .i8 (a 4), .int .i8 (a 5), .int .i8 (a 6), .int .i8 (a 7), .int .i8 (a 8), .int .i8 (a 9), .int .i8 (a 10), .int .i8 (a 11), .int .i8 (a 12), .int .i8 (a 13), .int .i8 (a 14), .int .i8 (a 15)] 41)) := (Below.refl _ _).alloc (Nat.le_refl _) _
  generalize w.alloc (.cells #[.int .i8 (a 0), .int .i8 (a 1), .int .i8 (a 2), .int .i8 (a 3), .int .i8 (a 4), .int .i8 (a 5), .int .i8 (a 6), .int .i8 (a 7), .int .i8 (a 8), .int .i8 (a 9), .int .i8 (a 10), .int .i8 (a 11), .int .i8 (a 12), .int .i8 (a 13), .int .i8 (a 14), .int .i8 (a 15)] 41) = W at *
  have Hc := hide' hc
  clear hb1 hc
  go_loopw [3, 4] (fun m i wx => wx = W ∧ ∃ k : Nat, k ≤ 16 ∧ i = .int .i64 (k : Int) ∧ m = .int .u16 (mb (upTo (fun i => !decide (a i = 0)) k) : Nat)) (fun _ i _ => 16 - (intOf i).toNat)
  case atStart => exact ⟨rfl, 0, by omega, rfl, by rw [H0.out]; rfl⟩
  case round =>
    obtain ⟨rfl, k, hk, rfl, rfl⟩ := hrel
    by_cases hlt : k < 16
    · have hlt' : (k : Int) < 16 := by omega
      have cw := Hc.out k hlt
      by_cases hz : a k = 0
      · have HM := hide' (Hn.out k (by simp [hz]))
        rw [hz] at cw
        clear hz
        go_wp2
        exact ⟨⟨trivial, k + 1, by omega, by go_num, by rw [HM.out]⟩, by simp [intOf]; omega⟩
      · have hy := Hy.out k hlt (by simp [hz])
        have hl := Hlt.out (k + 1)
        rw [← hy] at hl
        have hu := u16_sum _ _ hl
        have HY := hide' hy
        have HP := hide' (fun w => Hp.out k hlt w)
        have e4 : (a k != 0) = true := by simpa using hz
        generalize a k = ak at *
        clear hz hy hl
        generalize mb (upTo (fun i => !decide (a i = 0)) k) = M at *
        generalize pw k = P at *
        go_wp2_with fail
        refine (HP.out _).mono ?_
        rintro e w1 ⟨rfl, rfl⟩
        go_wp2_with fail
        exact ⟨⟨trivial, k + 1, by omega, by go_num, by rw [← HY.out]; first | rfl | simp⟩, by simp [intOf]; omega⟩
    · have hk16 : k = 16 := by omega
      subst hk16
      rw [H16.out]
      go_wp2
      go_ret
      exact ⟨rfl, hbl⟩
end Go.Proofs.Ytkipcdjadmocaaa
