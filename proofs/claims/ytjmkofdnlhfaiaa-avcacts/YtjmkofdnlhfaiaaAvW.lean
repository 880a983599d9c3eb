import Derived.Test.YtjmkofdnlhfaiaaAvA
set_option linter.unusedVariables false
set_option linter.unusedSimpArgs false
namespace Go.Proofs.Ytjmkofdnlhfaiaa
open Go.RowKit
namespace C
variable {B c g n v : Nat} {b : Nat → Nat} {s : St} {w w' : World}
theorem hsm_0 (v : Nat) : ∀ n, hsm st0.f v n = 0 := by
  have h0 : ∀ k, hld (fun _ => none) k = 0 := by
    intro k
    induction k with
    | zero => rfl
    | succ k ih => unfold hld; rw [ih]; rfl
  intro n
  induction n with
  | zero => rfl
  | succ n ih => unfold hsm; rw [ih, Nat.zero_add]; exact h0 v
theorem info3' : (Try.prog.info? 3).map (fun i => (i.zero, i.size, i.bytes)) = some (some (.int .i64 0), 1, 8) := by kernel_rfl
/-- the hands' row -/
theorem make55 (L : Int) (hL : L = (n : Nat)) (h : n ≤ 256) (w : World) : (Instr.makeSlice 55 (.int .i64 L) (.int .i64 L)).run Try.prog w = .ok (.slice (some ⟨w.heap.size, 0, none⟩) n n) (w.alloc (.cells (tab n (fun _ => .int .i64 0)) 3)) := by
  obtain ⟨i0, hi, hz0, hz1, hz2⟩ := info_parts info3'
  rw [hL]
  have := run_make (P := Try.prog) w 55 3 i0 _ Try.underlying55 hi hz0 .i64 .i64 (n : Nat) (n : Nat) (by omega) (Int.le_refl _) (by rw [hz2]; omega) (by omega)
  rw [this, hz1]
  simp only [Int.toNat_natCast, Nat.mul_one]
  rw [made_tab _ _ (fun _ => .int .i64 0) (fun i hi => ?_)]
  show (#[.int .i64 0] : Array Value)[i % 1]! = .int .i64 0
  rw [Nat.mod_one]
  rfl
set_option maxRecDepth 100000 in
set_option maxHeartbeats 1000000 in
theorem rnew_no (x y : Int) (w : World) (h : x < 1 ∨ 256 < x ∨ y < 1 ∨ 8 < y) : Calls Try.prog 11 #[.int .i64 x, .int .i64 y] w fun e w' => e = .returned (.tuple #[.pointer none, .int .i64 190]) ∧ w' = w := by
  by_cases h1 : x < 1
  · clear h
    go_enter Try.func11, Try.ntmps11
    go_wp2
    go_ret2
    exact ⟨rfl, rfl⟩
  by_cases h2 : 256 < x
  · clear h
    go_enter Try.func11, Try.ntmps11
    go_wp2
    go_ret2
    exact ⟨rfl, rfl⟩
  by_cases h3 : y < 1
  · clear h
    go_enter Try.func11, Try.ntmps11
    go_wp2
    go_ret2
    exact ⟨rfl, rfl⟩
  · have h4 : 8 < y := by omega
    clear h
    go_enter Try.func11, Try.ntmps11
    go_wp2
    go_ret2
    exact ⟨rfl, rfl⟩
set_option maxRecDepth 100000 in
set_option maxHeartbeats 1000000 in
theorem rnew_any (x y : Int) (n v : Nat) (w : World) (hx : x = (n : Nat)) (hy : y = (v : Nat)) (hn : 1 ≤ n ∧ n ≤ 256) (hv : 1 ≤ v ∧ v ≤ 8) : Calls Try.prog 11 #[.int .i64 x, .int .i64 y] w fun e w' => e = .returned (.tuple #[.pointer (some ⟨w.heap.size + 1, 0, none⟩), .int .i64 0]) ∧ Hid (w' = (w.alloc (.cells (tab n (fun _ => .int .i64 0)) 3)).alloc (.cells #[.int .i64 (n : Nat), .int .i64 (v : Nat), .slice (some ⟨w.heap.size, 0, none⟩) n n, .slice none 0 0, .int .i64 0, .int .i64 0, .int .i64 0] 60)) := by
  have m55 := fun w => make55 x hx hn.2 w
  have a1 : 1 ≤ x := by omega
  have a2 : x ≤ 256 := by omega
  have a3 : 1 ≤ y := by omega
  have a4 : y ≤ 8 := by omega
  have Hx := hide' hx
  have Hy := hide' hy
  clear hx hy hn hv
  generalize tab n (fun _ => Value.int .i64 0) = R0 at *
  go_enter Try.func11, Try.ntmps11
  go_wp2
  go_ret2
  rw [Hx.out, Hy.out]
  exact ⟨rfl, rfl⟩
set_option maxRecDepth 100000 in
set_option maxHeartbeats 2000000 in
theorem avcNew_walk (x y : Int) (w : World) : Calls Try.prog 4 #[.int .i64 x, .int .i64 y] w fun e w' => e = .returned (.bool true) ∧ Below w.heap.size w w' := by
  by_cases hb : x < 1 ∨ 256 < x ∨ y < 1 ∨ 8 < y
  · have H1 := hide' (rnew_no x y w hb)
    have H2 := hide' (new_no x y w hb)
    clear hb
    go_enter Try.func4, Try.ntmps4
    go_wp2_with fail
    refine H1.out.mono ?_
    rintro e wa ⟨rfl, hwa⟩
    replace hwa := hwa.symm
    subst hwa
    go_wp2_with fail
    refine H2.out.mono ?_
    rintro e wa ⟨rfl, hwa⟩
    replace hwa := hwa.symm
    subst hwa
    go_wp2
    go_ret
    exact ⟨rfl, Below.refl _ _⟩
  · obtain ⟨n, hn⟩ : ∃ n : Nat, x = (n : Int) := ⟨x.toNat, by omega⟩
    obtain ⟨v, hv⟩ : ∃ v : Nat, y = (v : Int) := ⟨y.toNat, by omega⟩
    have H1 := hide' (rnew_any x y n v w hn hv (by omega) (by omega))
    have H2 := hide' (fun w => new_any x y n v w hn hv (by omega) (by omega))
    have s31 := fun w => struct31 0 0 0 0 0 0 0 0 w
    have fo : (FloatKind.f64.format.order 0 0 == some .eq) = true := by kernel_rfl
    clear hb hn hv
    go_enter Try.func4, Try.ntmps4
    go_wp2_with fail
    refine H1.out.mono ?_
    rintro e w1 ⟨rfl, hw1⟩
    have b1 : Hid (Below w.heap.size w w1) := hide' (by rw [hw1.out]; exact ((Below.refl _ _).alloc (Nat.le_refl _) _).alloc (by simp) _)
    have H3 := hide' (H2.out w1)
    clear hw1 H1 H2
    go_wp2_with fail
    refine H3.out.mono ?_
    rintro e w2 ⟨c, rfl, g, b, h2, b2⟩
    have H4 : Hid (Calls Try.prog 13 #[.pointer (some ⟨c, 0, none⟩)] w2 fun e w' => e = .returned (.agg #[.int .i64 0, .int .i64 0, .int .i64 0, .int .i64 0]) ∧ Hid (Ca w1.heap.size c g n v b st0 w' ∧ Below w1.heap.size w1 w')) := hide' ((stats_any h2).mono fun e w' ⟨he, hb⟩ => ⟨by rw [he, hsm_0]; rfl, hide' ⟨h2.below hb, b2.trans (hb.mono b2.size)⟩⟩)
    clear H3 h2 b2
    go_wp2_with fail
    refine H4.out.mono ?_
    rintro e w3 ⟨rfl, h3⟩
    have H5 : Hid (Calls Try.prog 14 #[.pointer (some ⟨c, 0, none⟩)] w3 fun e w' => e = .returned (.float .f64 0) ∧ Hid (Below w1.heap.size w1 w')) := hide' ((ratio_any h3.out.1 (by show 0 + 0 < _; omega)).mono fun e w' ⟨he, k, hk⟩ => ⟨by rw [he]; rfl, hide' (by rw [hk]; exact h3.out.2.trans ((below_drewN w3 k).mono h3.out.2.size))⟩)
    clear H4 h3
    go_wp2_with fail
    refine H5.out.mono ?_
    rintro e w4 ⟨rfl, b4⟩
    clear H5
    go_wp2
    go_ret
    exact ⟨rfl, b1.out.trans (b4.out.mono b1.out.size)⟩
end C
end Go.Proofs.Ytjmkofdnlhfaiaa
