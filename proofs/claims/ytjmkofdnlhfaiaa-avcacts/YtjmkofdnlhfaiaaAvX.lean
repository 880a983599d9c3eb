import Derived.Test.YtjmkofdnlhfaiaaAvN
import Derived.Laws.Rows
set_option linter.unusedVariables false
set_option linter.unusedSimpArgs false
namespace Go.Proofs.Ytjmkofdnlhfaiaa
open Go.RowKit
namespace C
variable {B c g n v : Nat} {b : Nat → Nat} {s : St} {w w' : World}
/-- how many places are not free -/
def hld (f : Pf) : Nat → Nat
  | 0 => 0
  | k + 1 => hld f k + (if (f k).isNone then 0 else 1)
theorem hld_le (f : Pf) (k : Nat) : hld f k ≤ k := by
  induction k with
  | zero => exact Nat.le_refl _
  | succ k ih => unfold hld; split <;> omega
def hsm (f : Nat → Pf) (v : Nat) : Nat → Nat
  | 0 => 0
  | k + 1 => hsm f v k + hld (f k) v
theorem hsm_le (f : Nat → Pf) (v k : Nat) : hsm f v k ≤ k * v := by
  induction k with
  | zero => simp [hsm]
  | succ k ih => unfold hsm; have := hld_le (f k) v; rw [Nat.succ_mul]; omega
theorem wsum (a c : Nat) (h : a + c < 4000000000000000000) : wrap64 ((a : Int) + (c : Int)) = ((a + c : Nat) : Int) := by unfold wrap64; omega
set_option maxRecDepth 100000 in
set_option maxHeartbeats 1000000 in
theorem held_any {i : Nat} (hi : i < n) (h : Ca B c g n v b s w) : Calls Try.prog 22 #[.pointer (some ⟨g, i * 2, none⟩)] w fun e w' => e = .returned (.int .i64 (hld (s.f i) v : Nat)) ∧ w' = w := by
  have g0 := h.g0 hi
  have HF : Hid (∀ j, j < v → Calls Try.prog 33 #[.pointer (some ⟨b i, j * 7, none⟩)] w fun e w' => e = .returned (.bool (s.f i j).isNone) ∧ w' = w) := hide' (fun j hj => free_any _ _ _ w (h.range hi hj))
  have v2 := h.v2
  have Hv := hide' v2
  clear h v2
  generalize s.f i = f at *
  generalize b i = bb at *
  go_enter Try.func22, Try.ntmps22
  go_wp2_with fail
  go_loopw [3, 10] (fun y x wx => wx = w ∧ ∃ k : Nat, k ≤ v ∧ y = .int .i64 (hld f k : Nat) ∧ x = .int .i64 (k : Int)) (fun _ x _ => v - (intOf x).toNat)
  case atStart => exact ⟨rfl, 0, by omega, rfl, rfl⟩
  case round =>
    obtain ⟨rfl, k, hk, rfl, rfl⟩ := hrel
    by_cases hlt : k < v
    · have hlt' : (k : Int) < (v : Int) := by omega
      have Hw := hide' (wsucN k (by have := Hv.out; omega))
      have Hw2 := hide' (wsucN (hld f k) (by have := hld_le f k; have := Hv.out; omega))
      have HC := hide' (HF.out k hlt)
      have Hh := hide' (show hld f (k + 1) = hld f k + (if (f k).isNone then 0 else 1) from rfl)
      cases hp : (f k).isNone with
      | true =>
        rw [hp] at HC Hh
        clear hp
        go_wp2_with fail
        refine HC.out.mono ?_
        rintro e w2 ⟨rfl, rfl⟩
        go_wp2
        exact ⟨⟨by trivial, k + 1, by omega, by rw [Hh.out]; rfl, by rw [Hw.out]⟩, msr' hlt _ (Hw.out.trans (by omega))⟩
      | false =>
        rw [hp] at HC Hh
        clear hp
        go_wp2_with fail
        refine HC.out.mono ?_
        rintro e w2 ⟨rfl, rfl⟩
        go_wp2
        exact ⟨⟨by trivial, k + 1, by omega, by rw [Hh.out, Hw2.out]; rfl, by rw [Hw.out]⟩, msr' hlt _ (Hw.out.trans (by omega))⟩
    · obtain rfl : k = v := by omega
      go_wp2
      go_ret
      exact ⟨rfl, rfl⟩
set_option maxRecDepth 100000 in
set_option maxHeartbeats 1000000 in
theorem which_any (x : Int) (m : Nat) (w : World) (hm : 0 < m) (hm2 : m ≤ 256) : Calls Try.prog 17 #[.int .i64 x, .int .i64 (m : Nat)] w fun e w' => ∃ k : Nat, e = .returned (.int .i64 (k : Nat)) ∧ Hid (1 ≤ k ∧ k ≤ m ∧ k = (x % (m : Int)).toNat + 1 ∧ w' = w) := by
  have h3 := Int.emod_nonneg x (b := (m : Int)) (by omega)
  have h4 := Int.emod_lt_of_pos x (b := (m : Int)) (by omega)
  have hn : (0 : Int) < (m : Int) := by omega
  have Hn2 := hide' (show (m : Int) ≤ 256 by omega)
  obtain ⟨k, hk⟩ : ∃ k : Nat, x % (m : Int) = (k : Int) := ⟨(x % (m : Int)).toNat, by omega⟩
  have Hk := hide' (show 1 ≤ k + 1 ∧ k + 1 ≤ m ∧ k + 1 = (x % (m : Int)).toNat + 1 by omega)
  have W := hide' (wsucN k (by omega))
  have HK := hide' hk
  clear h3 h4 hk
  go_enter Try.func17, Try.ntmps17
  go_wp2
  · rename_i hz
    go_ret
    refine ⟨k + 1, ?_, hide' ⟨Hk.out.1, Hk.out.2.1, Hk.out.2.2, rfl⟩⟩
    refine ret_int ?_
    rw [spt_neg hn Hn2.out hz, HK.out, W.out]
  · rename_i hz
    go_ret
    refine ⟨k + 1, ?_, hide' ⟨Hk.out.1, Hk.out.2.1, Hk.out.2.2, rfl⟩⟩
    refine ret_int ?_
    rw [spt_pos hn (Int.not_lt.2 hz), HK.out, W.out]
set_option maxRecDepth 100000 in
set_option maxHeartbeats 1000000 in
theorem stats_any (h : Ca B c g n v b s w) : Calls Try.prog 13 #[.pointer (some ⟨c, 0, none⟩)] w fun e w' => e = .returned (.agg #[.int .i64 (s.hi : Nat), .int .i64 (s.mi : Nat), .int .i64 (s.ev : Nat), .int .i64 (hsm s.f v n : Nat)]) ∧ Below w.heap.size w w' := by
  obtain ⟨w1, hw1⟩ : ∃ w1, w1 = w.alloc (.cells #[.int .i64 0, .int .i64 0, .int .i64 0, .int .i64 0] 31) := ⟨_, rfl⟩
  have hb1 : Below w.heap.size w w1 := by rw [hw1]; exact (Below.refl _ _).alloc (Nat.le_refl _) _
  have h1 : Ca B c g n v b s w1 := h.below hb1
  obtain ⟨x, hx⟩ : ∃ x, x = w.heap.size := ⟨_, rfl⟩
  have hbx : w1.heap[x]? = some (.cells #[.int .i64 0, .int .i64 0, .int .i64 0, .int .i64 0] 31 (0, 0)) := by rw [hw1, hx]; exact heap_alloc_new _ _
  have c0' := h1.c0
  rw [hw1] at c0'
  have HB := hide' hb1
  have Hx := hide' hx
  have Hw1 := hide' hw1
  have H1 := hide' h1
  have HBx := hide' hbx
  have Hnv := hide' (show n * v < 1000000 from Nat.lt_of_le_of_lt (Nat.mul_le_mul h.n2 h.v2) (by omega))
  have Hn := hide' h.n2
  clear h h1 hb1 hbx hx hw1
  go_enter Try.func13, Try.ntmps13
  go_wp2_with fail
  rw [← Hx.out, ← Hw1.out]
  clear c0'
  go_loopw [3, 10] (fun y q wx => wx = w1 ∧ ∃ k : Nat, k ≤ n ∧ y = .int .i64 (hsm s.f v k : Nat) ∧ q = .int .i64 (k : Int)) (fun _ q _ => n - (intOf q).toNat)
  case atStart => exact ⟨rfl, 0, by omega, rfl, rfl⟩
  case round =>
    obtain ⟨rfl, k, hk, rfl, rfl⟩ := hrel
    have c0 := H1.out.c0
    by_cases hlt : k < n
    · have hlt' : (k : Int) < (n : Int) := by omega
      have Hw := hide' (wsucN k (by have := Hn.out; omega))
      have Hw2 := hide' (wsum (hsm s.f v k) (hld (s.f k) v) (by have := hsm_le s.f v (k + 1); unfold hsm at this; have := Nat.mul_le_mul_right v (show k + 1 ≤ n by omega); have := Hnv.out; omega))
      have HC := hide' (held_any hlt H1.out)
      have Hh := hide' (show hsm s.f v (k + 1) = hsm s.f v k + hld (s.f k) v from rfl)
      go_wp2_with fail
      refine HC.out.mono ?_
      rintro e w2 ⟨rfl, rfl⟩
      go_wp2
      exact ⟨⟨by trivial, k + 1, by omega, by rw [Hh.out, Hw2.out], by rw [Hw.out]⟩, msr' hlt _ (Hw.out.trans (by omega))⟩
    · obtain rfl : k = n := by omega
      have c1 := H1.out.c1
      have c2 := H1.out.c2
      have c3 := H1.out.c3
      have x0 : wr.cell? ⟨x, 0, none⟩ = some (.int .i64 0) := by rw [Lib.cell_of_heap HBx.out]; rfl
      have x1 : wr.cell? ⟨x, 1, none⟩ = some (.int .i64 0) := by rw [Lib.cell_of_heap HBx.out]; rfl
      have x2 : wr.cell? ⟨x, 2, none⟩ = some (.int .i64 0) := by rw [Lib.cell_of_heap HBx.out]; rfl
      have x3 : wr.cell? ⟨x, 3, none⟩ = some (.int .i64 0) := by rw [Lib.cell_of_heap HBx.out]; rfl
      have xf : ∀ j, wr.frozen? ⟨x, j, none⟩ = false := fun j => Lib.frozen_of_heap HBx.out j
      have ne : x ≠ c := fun e => H1.out.not HBx.out (by decide) (.inl e)
      go_wp2_with fail
      go_region
      have HE : Hid (((((wr.setCell ⟨x, 0, none⟩ (.int .i64 (s.hi : Nat))).setCell ⟨x, 1, none⟩ (.int .i64 (s.mi : Nat))).setCell ⟨x, 2, none⟩ (.int .i64 (s.ev : Nat))).setCell ⟨x, 3, none⟩ (.int .i64 (hsm s.f v k : Nat))).drew.heap[x]? = some (.cells #[.int .i64 (s.hi : Nat), .int .i64 (s.mi : Nat), .int .i64 (s.ev : Nat), .int .i64 (hsm s.f v k : Nat)] 31 (0, 0))) := hide' (set_block (off := 3) (set_block (off := 2) (set_block (off := 1) (set_block (off := 0) HBx.out))))
      have HT : Hid (Below w.heap.size w ((((wr.setCell ⟨x, 0, none⟩ (.int .i64 (s.hi : Nat))).setCell ⟨x, 1, none⟩ (.int .i64 (s.mi : Nat))).setCell ⟨x, 2, none⟩ (.int .i64 (s.ev : Nat))).setCell ⟨x, 3, none⟩ (.int .i64 (hsm s.f v k : Nat))).drew) := hide' (by
        have t := (((turn_b x 0 (.int .i64 (s.hi : Nat)) wr).trans (turn_b x 1 (.int .i64 (s.mi : Nat)) _)).trans (turn_b x 2 (.int .i64 (s.ev : Nat)) _)).trans (turn_b x 3 (.int .i64 (hsm s.f v k : Nat)) _)
        exact HB.out.trans (t.drew.below (fun j hj => by rw [hj, Hx.out]; exact Nat.le_refl _) HB.out.size))
      generalize ((((wr.setCell ⟨x, 0, none⟩ (.int .i64 (s.hi : Nat))).setCell ⟨x, 1, none⟩ (.int .i64 (s.mi : Nat))).setCell ⟨x, 2, none⟩ (.int .i64 (s.ev : Nat))).setCell ⟨x, 3, none⟩ (.int .i64 (hsm s.f v k : Nat))).drew = W at *
      go_wp2
      refine bodyPost_ret (results_cell_row rfl _ _ x 31 #[.int .i64 (s.hi : Nat), .int .i64 (s.mi : Nat), .int .i64 (s.ev : Nat), .int .i64 (hsm s.f v k : Nat)] (0, 0) _ rfl HE.out Try.underlying31 rfl (by kernel_rfl)) rfl ?_
      exact ⟨rfl, HT.out⟩
end C
end Go.Proofs.Ytjmkofdnlhfaiaa
