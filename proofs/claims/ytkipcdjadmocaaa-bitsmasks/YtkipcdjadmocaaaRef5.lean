import Derived.Test.YtkipcdjadmocaaaRef4
set_option linter.unusedVariables false
set_option linter.unusedSimpArgs false
namespace Go.Proofs.Ytkipcdjadmocaaa
open Go.RowKit
theorem wdN_snoc (p : Nat → Bool) : ∀ n off, B.wdN p (n + 1) off = B.wdN p n off + (p (off + n)).toNat * 2 ^ n := by
  intro n
  induction n with
  | zero => intro off; simp [B.wdN]
  | succ n ih =>
    intro off
    have h1 : B.wdN p (n + 1 + 1) off = (p off).toNat + 2 * B.wdN p (n + 1) (off + 1) := rfl
    have h2 : B.wdN p (n + 1) off = (p off).toNat + 2 * B.wdN p n (off + 1) := rfl
    rw [h1, ih (off + 1), h2, show off + 1 + n = off + (n + 1) by omega, Nat.pow_succ]
    cases p (off + (n + 1)) <;> simp <;> omega
set_option maxHeartbeats 1000000 in
set_option maxRecDepth 100000 in
theorem rword_any {B0 x : Nat} {ao : Option Addr} {cap R : Nat} {p : Nat → Bool} {w : World} (m : Nat) (hm : m ≤ 2048) (h : Rs B0 x ao cap R p w) : Calls Try.prog 62 #[.pointer (some ⟨x, 0, none⟩), .int .i64 (m : Nat)] w fun e w' => e = .returned (.int .u64 (B.wd p m : Nat)) ∧ w' = w := by
  have Hh := hide' (fun (i : Int) => rhas_any i h)
  have Hs := hide' (fun n => wdN_snoc p n (64 * m))
  have Hb : Hid (∀ k : Nat, hasB p (64 * (m : Int) + (k : Int)) = p (64 * m + k)) := fun k => by
    unfold hasB
    rw [show (64 * (m : Int) + (k : Int)).toNat = 64 * m + k by omega, decide_eq_true (by omega)]; rfl
  have Hlt := hide' (fun n => B.wdN_lt p n (64 * m))
  have Hfin : Hid (B.wd p m = B.wdN p 64 (64 * m)) := rfl
  rw [Hfin.out]
  clear h
  obtain ⟨f, hf⟩ : ∃ f : Nat → Nat, (fun n => B.wdN p n (64 * m)) = f := ⟨_, rfl⟩
  have hfa : ∀ n, B.wdN p n (64 * m) = f n := fun n => by rw [← hf]
  have Hs2 : Hid (∀ n, f (n + 1) = f n + (p (64 * m + n)).toNat * 2 ^ n) := fun n => by rw [← hfa, ← hfa]; exact Hs.out n
  have Hlt2 : Hid (∀ n, f n < 2 ^ n) := fun n => by rw [← hfa]; exact Hlt.out n
  have H0 : Hid (f 0 = 0) := (by show f 0 = 0; rw [← hfa]; rfl)
  rw [hfa 64]
  clear hf hfa Hs Hlt Hfin
  go_enter Try.func62, Try.ntmps62
  go_wp2
  go_loopw [5, 6, 7] (fun s b i wx => wx = w ∧ ∃ k : Nat, k ≤ 64 ∧ i = .int .i64 (64 * (m : Int) + (k : Int)) ∧ s = .int .u64 (f k : Nat) ∧ b = .int .u64 (2 ^ k % 18446744073709551616 : Nat)) (fun _ _ i _ => (64 * (m : Int) + 64 - intOf i).toNat)
  case atStart => exact ⟨rfl, 0, by omega, by simp, by rw [H0.out]; rfl, rfl⟩
  case round =>
    obtain ⟨rfl, k, hk, rfl, rfl, rfl⟩ := hrel
    by_cases hlt : k < 64
    · have e1 : decide (64 * (m : Int) + (k : Int) < 64 * (m : Int) + 64) = true := by simp; omega
      have hb := Hb.out k
      have hs := Hs2.out k
      have hl := Hlt2.out k
      have hl1 := Hlt2.out (k + 1)
      have hp : (2 : Nat) ^ k < 2 ^ 64 := Nat.pow_lt_pow_right (by omega) hlt
      have hp1 : (2 : Nat) ^ (k + 1) ≤ 2 ^ 64 := Nat.pow_le_pow_right (by omega) (by omega)
      have hpm : (2 : Nat) ^ k % 18446744073709551616 = 2 ^ k := Nat.mod_eq_of_lt (by omega)
      have hpm1 : (2 : Nat) ^ (k + 1) % 18446744073709551616 = 2 ^ k * 2 % 18446744073709551616 := by rw [Nat.pow_succ]
      have Hp2 : Hid (IntKind.u64.wrap (((2 : Nat) ^ k : Nat) * 2 : Int) = ((2 ^ (k + 1) % 18446744073709551616 : Nat) : Int)) := by
        show _ = _
        rw [hpm1, IntKind.wrap_u64]
        generalize (2 : Nat) ^ k = z at *
        omega
      rw [hpm]
      have Hhk := hide' (Hh.out (64 * (m : Int) + (k : Int)))
      rw [hb] at Hhk
      generalize hfk1 : f (k + 1) = F1 at *
      have Hf1 := hide' hfk1
      generalize f k = F at *
      have hpow : (2 : Nat) ^ (k + 1) = 2 ^ k * 2 := Nat.pow_succ 2 k
      generalize hz1 : (2 : Nat) ^ (k + 1) = Z1 at *
      have HZ1 := hide' hz1
      generalize (2 : Nat) ^ k = Z at *
      cases hpk : p (64 * m + k)
      · rw [hpk] at Hhk hs
        simp only [Bool.toNat_false, Nat.zero_mul, Nat.add_zero] at hs
        have Hs3 := hide' hs
        clear hs hb hpm hpm1 hpow hpk hfk1 hz1
        go_wp2_with fail
        refine Hhk.out.mono ?_
        rintro e w1 ⟨rfl, hw1⟩
        replace hw1 := hw1.symm
        subst hw1
        go_wp2_with fail
        exact ⟨⟨trivial, k + 1, by omega, by go_num, by rw [Hf1.out, Hs3.out], by rw [HZ1.out, Hp2.out]⟩, by simp [intOf]; omega⟩
      · rw [hpk] at Hhk hs
        simp only [Bool.toNat_true, Nat.one_mul] at hs
        have hw : IntKind.u64.wrap ((F : Int) + (Z : Int)) = (F1 : Int) := by rw [IntKind.wrap_u64]; omega
        have hs' : (F : Int) + (Z : Int) = (F1 : Int) := by omega
        clear hs hb hpm hpm1 hpow hpk hfk1 hz1
        go_wp2_with fail
        refine Hhk.out.mono ?_
        rintro e w1 ⟨rfl, hw1⟩
        replace hw1 := hw1.symm
        subst hw1
        go_wp2_with fail
        exact ⟨⟨trivial, k + 1, by omega, by go_num, by rw [Hf1.out], by rw [HZ1.out, Hp2.out]⟩, by simp [intOf]; omega⟩
    · have hk64 : k = 64 := by omega
      subst hk64
      have e1 : decide (64 * (m : Int) + ((64 : Nat) : Int) < 64 * (m : Int) + 64) = false := by simp
      clear hlt
      go_wp2
      go_ret
      exact ⟨rfl, rfl⟩
set_option maxHeartbeats 1000000 in
set_option maxRecDepth 100000 in
theorem rquad_out {B0 x : Nat} {ao : Option Addr} {cap R : Nat} {p : Nat → Bool} {w : World} (k : Int) (h : Rs B0 x ao cap R p w) (hk : k < 0 ∨ (R : Int) ≤ 256 * k) : Calls Try.prog 42 #[.pointer (some ⟨x, 0, none⟩), .int .i64 k] w fun e w' => e = .returned (.tuple #[.agg none4, .bool false]) ∧ Below w.heap.size w w' := by
  have c0 := h.c0
  have hle := h.le
  have hx := h.lt
  unfold none4
  have fin : ∀ o1 o2 : Obj, Below w.heap.size w ((w.alloc o1).alloc o2) := fun o1 o2 => ((Below.refl _ _).alloc (Nat.le_refl _) _).alloc (by simp) _
  have Hf := hide' fin
  clear h fin
  by_cases h0 : k < 0
  · have e1 : decide (k < 0) = true := by simpa using h0
    go_enter Try.func42, Try.ntmps42
    go_wp2
    exact bodyPost_ret (v := .tuple #[.agg #[.int .u64 0, .int .u64 0, .int .u64 0, .int .u64 0], .bool false]) (by simp [results, Try.results42, go_sem]) rfl ⟨rfl, Hf.out _ _⟩
  · have e1 : decide (k < 0) = false := by simpa using h0
    by_cases h1 : 65536 < k
    · have e2 : decide (65536 < k) = true := by simpa using h1
      go_enter Try.func42, Try.ntmps42
      go_wp2
      exact bodyPost_ret (v := .tuple #[.agg #[.int .u64 0, .int .u64 0, .int .u64 0, .int .u64 0], .bool false]) (by simp [results, Try.results42, go_sem]) rfl ⟨rfl, Hf.out _ _⟩
    · have e2 : decide (65536 < k) = false := by simpa using h1
      have e3 : decide ((R : Int) ≤ 256 * k) = true := by simp; omega
      have hk0 : 0 ≤ k := by omega
      have hk1 : k ≤ 65536 := by omega
      go_enter Try.func42, Try.ntmps42
      go_wp2
      exact bodyPost_ret (v := .tuple #[.agg #[.int .u64 0, .int .u64 0, .int .u64 0, .int .u64 0], .bool false]) (by simp [results, Try.results42, go_sem]) rfl ⟨rfl, Hf.out _ _⟩
set_option maxHeartbeats 1000000 in
set_option maxRecDepth 100000 in
theorem rquad_in {B0 x : Nat} {ao : Option Addr} {cap R : Nat} {p : Nat → Bool} {w : World} (k : Nat) (h : Rs B0 x ao cap R p w) (hk : 256 * k < R) : Calls Try.prog 42 #[.pointer (some ⟨x, 0, none⟩), .int .i64 (k : Nat)] w fun e w' => e = .returned (.tuple #[.agg (four p k), .bool true]) ∧ Below w.heap.size w w' := by
  have c0 := h.c0
  have hle := h.le
  have hx := h.lt
  have H := hide' h
  have Hw := hide' (fun m hm wx (hr : Rs B0 x ao cap R p wx) => rword_any m hm hr)
  clear h
  have e1 : decide ((k : Int) < 0) = false := by simp
  have e2 : decide (65536 < (k : Int)) = false := by simp; omega
  have e3 : decide ((R : Int) ≤ 256 * (k : Int)) = false := by simp; omega
  unfold four
  generalize B.wd p = f at *
  have h2 := heap_alloc_new w (.cells #[.int .u64 0, .int .u64 0, .int .u64 0, .int .u64 0] 64)
  have h4 : ∀ o, ((w.alloc (.cells #[.int .u64 0, .int .u64 0, .int .u64 0, .int .u64 0] 64)).alloc o).heap[w.heap.size]? = some (.cells #[.int .u64 0, .int .u64 0, .int .u64 0, .int .u64 0] 64) := fun o => by rw [Below.heap_alloc _ _ _ (by simp)]; exact h2
  have h3 := heap_alloc_new (w.alloc (.cells #[.int .u64 0, .int .u64 0, .int .u64 0, .int .u64 0] 64)) (.cells #[.int .u64 0, .int .u64 0, .int .u64 0, .int .u64 0] 64)
  rw [show (w.alloc (.cells #[.int .u64 0, .int .u64 0, .int .u64 0, .int .u64 0] 64)).heap.size = w.heap.size + 1 by simp] at h3
  have hb3 : Below w.heap.size w ((w.alloc (.cells #[.int .u64 0, .int .u64 0, .int .u64 0, .int .u64 0] 64)).alloc (.cells #[.int .u64 0, .int .u64 0, .int .u64 0, .int .u64 0] 64)) := ((Below.refl _ _).alloc (Nat.le_refl _) _).alloc (by simp) _
  have h5 := h4 (.cells #[.int .u64 0, .int .u64 0, .int .u64 0, .int .u64 0] 64)
  clear h4 h2
  go_enter Try.func42, Try.ntmps42
  go_wp2
  generalize hW : ((w.alloc (.cells #[.int .u64 0, .int .u64 0, .int .u64 0, .int .u64 0] 64)).alloc (.cells #[.int .u64 0, .int .u64 0, .int .u64 0, .int .u64 0] 64)) = W at *
  clear hW
  go_loopw [7] (fun i wx => ∃ j : Nat, j ≤ 4 ∧ i = .int .i64 (j : Int) ∧ Below w.heap.size w wx ∧ (∀ n, n < 4 → wx.cell? ⟨w.heap.size + 1, n, none⟩ = some (.int .u64 (if n < j then f (k * 4 + n) else 0 : Nat))) ∧ (∀ n, wx.frozen? ⟨w.heap.size + 1, n, none⟩ = false) ∧ wx.heap[w.heap.size]? = W.heap[w.heap.size]?) (fun i _ => 4 - (intOf i).toNat)
  case atStart =>
    refine ⟨0, by omega, rfl, hb3, fun n hn => ?_, fun n => Lib.frozen_of_heap h3 n, rfl⟩
    rw [Lib.cell_of_heap h3]
    rcases (by omega : n = 0 ∨ n = 1 ∨ n = 2 ∨ n = 3) with rfl | rfl | rfl | rfl <;> rfl
  case round =>
    obtain ⟨j, hj, rfl, bk, hc, hf, hh⟩ := hrel
    by_cases hlt : j < 4
    · have hlt' : (j : Int) < 4 := by omega
      have ck := hc j hlt
      have fk := hf j
      have hm : 4 * (k : Int) + (j : Int) = ((k * 4 + j : Nat) : Int) := by omega
      have hRk := H.out.below bk
      have Hwk := hide' (Hw.out (k * 4 + j) (by omega) _ hRk)
      have Hc := hide' hc
      have Hf := hide' hf
      have Hh := hide' hh
      clear hc hf hh hRk
      generalize hmm : k * 4 + j = m at *
      generalize hfm : f m = z at *
      have Hz : Hid (f (k * 4 + j) = z) := (show _ = _ by rw [hmm]; exact hfm)
      clear hmm hfm
      go_wp2_with fail
      refine Hwk.out.mono ?_
      rintro e w1 ⟨rfl, hw1⟩
      replace hw1 := hw1.symm
      subst hw1
      go_wp2_with fail
      refine ⟨⟨j + 1, by omega, by go_num, bk.setCell (by simp) _, fun n hn => ?_, fun n => ?_, ?_⟩, by simp [intOf]; omega⟩
      · by_cases hjn : n = j
        · subst hjn
          rw [World.cell?_setCell_same _ _ _ ck, if_pos (by omega), Hz.out]
        · rw [World.cell?_setCell_other _ _ _ _ (fun q => hjn (by simpa using (congrArg Addr.off q).symm)), Hc.out n hn]
          congr 3
          by_cases h6 : n < j
          · rw [if_pos h6, if_pos (by omega)]
          · rw [if_neg h6, if_neg (by omega)]
      · simp only [World.frozen?_setCell]; exact Hf.out n
      · rw [Below.heap_setCell _ _ _ _ (by simp)]; exact Hh.out
    · have hj4 : j = 4 := by omega
      subst hj4
      have hg := hh.trans h5
      have c0' := hc 0 (by omega)
      have c1' := hc 1 (by omega)
      have c2' := hc 2 (by omega)
      have c3' := hc 3 (by omega)
      rw [if_pos (by omega)] at c0' c1' c2' c3'
      have d0 : wr.cell? ⟨w.heap.size, 0, none⟩ = some (.int .u64 0) := by rw [Lib.cell_of_heap hg]; rfl
      have d1 : wr.cell? ⟨w.heap.size, 1, none⟩ = some (.int .u64 0) := by rw [Lib.cell_of_heap hg]; rfl
      have d2 : wr.cell? ⟨w.heap.size, 2, none⟩ = some (.int .u64 0) := by rw [Lib.cell_of_heap hg]; rfl
      have d3 : wr.cell? ⟨w.heap.size, 3, none⟩ = some (.int .u64 0) := by rw [Lib.cell_of_heap hg]; rfl
      have hfz : ∀ n, wr.frozen? ⟨w.heap.size, n, none⟩ = false := fun n => Lib.frozen_of_heap hg n
      rw [Nat.add_zero] at c0'
      clear hc hf hh hg hlt h5 h3
      go_wp2
      refine bodyPost_ret (v := .tuple #[.agg #[.int .u64 (f (k * 4) : Nat), .int .u64 (f (k * 4 + 1) : Nat), .int .u64 (f (k * 4 + 2) : Nat), .int .u64 (f (k * 4 + 3) : Nat)], .bool true]) (by simp [results, Try.results42, go_sem, d0, d1, d2, d3]) rfl ⟨rfl, ?_⟩
      exact ((((bk.setCell (Nat.le_refl _) _).setCell (Nat.le_refl _) _).setCell (Nat.le_refl _) _).setCell (Nat.le_refl _) _)
end Go.Proofs.Ytkipcdjadmocaaa
