import Derived.Test.YtodgokcjjlkcoaaMdw
set_option linter.unusedVariables false
set_option linter.unusedSimpArgs false
namespace Go.Proofs.Ytodgokcjjlkcoaa
open Go.RowKit Go.Maps
namespace U
def lrg (a b c : Nat) : Bool := vst a b c || decide (2000 < a * b * c)
theorem vst_le {a b c : Nat} (h : vst a b c = false) : a ≤ 65536 ∧ b ≤ 65536 ∧ c ≤ 65536 ∧ a * b ≤ 65536 ∧ a * b * c ≤ 65536 := by
  unfold vst at h
  simp only [Bool.or_eq_false_iff, decide_eq_false_iff_not] at h
  omega
theorem wmul3 {a b c : Nat} (h : vst a b c = false) : wrap64 (wrap64 ((a : Int) * (b : Int)) * (c : Int)) = ((a * b * c : Nat) : Int) := by
  obtain ⟨h1, h2, h3, h4, h5⟩ := vst_le h
  rw [wmul (by omega) (by omega), wmul (by omega) (by omega)]
set_option maxRecDepth 100000 in
set_option maxHeartbeats 4000000 in
theorem large_any (F : Pf) (N : Nat) (w : World) (f : Fine F N) : Calls Try.prog 31 #[.agg F.arr] w fun e w' => e = .returned (.bool (lrg F.s.2.2.length F.o.2.2.length F.a.2.2.length)) ∧ Below w.heap.size w w' := by
  have Hf := hide' f
  clear f
  go_enter Try.func31, Try.ntmps31
  go_wp2_with (with_reducible refine stay_load 34 _ rfl ?_)
  unfold Stay
  refine wpList_load_row rfl 34 _ rfl w.heap.size rfl 34 F.arr (0, 0) _ (heap_alloc_new w _) Try.underlying34 rfl (size_arr F) ?_
  go_wp2_with fail
  have K0 : Hid (Below w.heap.size w (w.alloc (.cells F.arr 34))) := (Below.refl _ _).alloc (Nat.le_refl _) _
  have K1 : Hid ((w.alloc (.cells F.arr 34)).heap[w.heap.size]? = some (.cells F.arr 34 (0, 0))) := heap_alloc_new w _
  generalize w.alloc (.cells F.arr 34) = V at *
  obtain ⟨q1, hq1⟩ : ∃ q1, q1 = w.heap.size := ⟨_, rfl⟩
  rw [← hq1] at K1
  rw [← hq1]
  clear hq1
  refine (vast_call F N V Hf.out).mono ?_
  rintro e V1 ⟨rfl, b1⟩
  have HB := hide' (K0.out.trans (b1.mono K0.out.size))
  have K2 := (b1.block _ (lt_of_heap K1.out)).trans K1.out
  have e1 : V1.cell? ⟨q1, 1, none⟩ = some (.slice F.s.1 F.s.2.2.length F.s.2.1) := by rw [Lib.cell_of_heap K2]; rfl
  have e3 : V1.cell? ⟨q1, 3, none⟩ = some (.slice F.o.1 F.o.2.2.length F.o.2.1) := by rw [Lib.cell_of_heap K2]; rfl
  have e0 : V1.cell? ⟨q1, 0, none⟩ = some (.slice F.a.1 F.a.2.2.length F.a.2.1) := by rw [Lib.cell_of_heap K2]; rfl
  clear K0 K1 K2 b1 V
  cases hv : vst F.s.2.2.length F.o.2.2.length F.a.2.2.length with
  | true =>
    have KL : Hid (lrg F.s.2.2.length F.o.2.2.length F.a.2.2.length = true) := by show _ = _; unfold lrg; rw [hv]; rfl
    clear hv
    go_wp2_with fail
    go_ret
    exact ⟨by rw [KL.out]; rfl, HB.out⟩
  | false =>
    have KL : Hid (lrg F.s.2.2.length F.o.2.2.length F.a.2.2.length = decide (2000 < wrap64 (wrap64 ((F.s.2.2.length : Int) * (F.o.2.2.length : Int)) * (F.a.2.2.length : Int)))) := by
      show _ = _
      unfold lrg
      rw [hv, Bool.false_or, wmul3 hv]
      congr 1
      apply propext
      omega
    clear hv
    go_wp2_with fail
    go_ret
    exact ⟨by rw [KL.out]; rfl, HB.out⟩
end U
end Go.Proofs.Ytodgokcjjlkcoaa
