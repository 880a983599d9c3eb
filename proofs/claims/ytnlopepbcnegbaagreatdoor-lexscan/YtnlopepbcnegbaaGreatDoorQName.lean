import Derived.Test.YtnlopepbcnegbaaGreatDoorGap
import Derived.Test.YtnlopepbcnegbaaGreatDoorJM
set_option linter.unusedVariables false
set_option linter.unusedSimpArgs false
namespace Go.Proofs.YtnlopepbcnegbaaGreatDoor
open Go.RowKit
theorem below2 (w : World) (o1 o2 : Obj) : Below w.heap.size w ((w.alloc o1).alloc o2) := ((Below.refl _ _).alloc (Nat.le_refl _) _).alloc (by simp) _
theorem after2' {w w1 : World} {o1 o2 : Obj} (t : Below ((w.alloc o1).alloc o2).heap.size ((w.alloc o1).alloc o2) w1) :
    w1.heap[w.heap.size]? = some o1 ∧ w1.heap[w.heap.size + 1]? = some o2 ∧ w.heap.size + 2 ≤ w1.heap.size ∧ Below w.heap.size w w1 := by
  have := t.size
  refine ⟨?_, ?_, by simpa using this, (below2 w o1 o2).trans (t.mono (by simp; omega))⟩
  · rw [t.block _ (by simp; omega)]
    exact (Below.heap_alloc _ _ _ (by simp)).trans (heap_alloc_new _ _)
  · rw [t.block _ (by simp)]
    have := heap_alloc_new (w.alloc o1) o2
    simpa using this
theorem Below.set4' {w w' : World} (h : Below w.heap.size w w') {g : Nat} (hg : w.heap.size ≤ g) (a b c d : Value) :
    Below w.heap.size w ((((w'.setCell ⟨g, 0, none⟩ a).setCell ⟨g, 1, none⟩ b).setCell ⟨g, 2, none⟩ c).setCell ⟨g, 3, none⟩ d) :=
  (((h.setCell (p := ⟨g, 0, none⟩) hg _).setCell (p := ⟨g, 1, none⟩) hg _).setCell (p := ⟨g, 2, none⟩) hg _).setCell (p := ⟨g, 3, none⟩) hg _
/-- a quoted name's end -/
def QN (l c : Int) (t : ByteArray) (w : World) (v : Value) (w' : World) : Prop :=
  if N.valid t then v = .tuple #[tokV 2 t l c, .pointer none] else ∃ fb, v = .tuple #[tokV 0 ByteArray.empty 0 0, .pointer (some ⟨fb, 0, none⟩)] ∧ w.heap.size ≤ fb ∧ Flt fb 10 l c t w'

set_option maxRecDepth 100000 in
set_option maxHeartbeats 1000000 in
theorem quotedName_any (l c : Int) (t : ByteArray) (w : World) (ht : t.size ≤ maxLen) :
    Calls Tryz.prog 77 #[.agg #[.int .i64 l, .int .i64 c], .string t] w fun e w' => ∃ v, e = .returned v ∧ QN l c t w v w' ∧ Below w.heap.size w w' := by
  have HV := hide' fun w => valid_any t w ht
  unfold QN
  cases hv : N.valid t
  · rw [hv] at HV
    go_enter Tryz.func77, Tryz.ntmps77
    go_wp2_with (first | (go_at_call 19; refine (HV.out _).mono ?_; rintro e w1 ⟨rfl, b1⟩; obtain ⟨h0, h1, hz1, b1'⟩ := after2' b1; obtain ⟨p0, p1⟩ := two_cells h0; have K := hide' (And.intro (Tk.of_cells h1) b1'); clear h0 h1 b1 b1') | (go_at_call 58; refine (pfault_any _ _ _ _ _).mono ?_; rintro e w2 ⟨fb, rfl, hfb, hflt, b2⟩; have k2 := K.out.1.below b2; have kc0 := k2.c0; have kc1 := k2.c1; have kc2 := k2.c2; have kc3 := k2.c3; obtain ⟨z0, z1, z2, z3⟩ := k2.frz; have K2 := hide' (And.intro k2 (And.intro hflt b2)); clear k2 hflt b2))
    refine bodyPost_ret_by (results4 rfl _ _ (w.heap.size + 1) _ _ _ _ rfl (K2.out.1.set _ _ _ _)) rfl ?_
    refine ⟨_, rfl, ?_, Below.set4' (K.out.2.trans (K2.out.2.2.mono (by omega))) (by omega) _ _ _ _⟩
    try rw [if_neg (by simp)]
    have hne : fb ≠ w.heap.size + 1 := by omega
    exact ⟨fb, rfl, by omega, ((Below.heap_setCell _ _ _ _ hne).trans ((Below.heap_setCell _ _ _ _ hne).trans ((Below.heap_setCell _ _ _ _ hne).trans (Below.heap_setCell _ _ _ _ hne)))).trans K2.out.2.1⟩
  · rw [hv] at HV
    go_enter Tryz.func77, Tryz.ntmps77
    go_wp2_with (first | (go_at_call 19; refine (HV.out _).mono ?_; rintro e w1 ⟨rfl, b1⟩; obtain ⟨h0, h1, hz1, b1'⟩ := after2' b1; obtain ⟨p0, p1⟩ := two_cells h0; have K := hide' (And.intro (Tk.of_cells h1) b1'); clear h0 h1 b1 b1') | (go_at_call 50; refine (ptoken_any _ _ _ _ _).mono ?_; rintro e w2 ⟨rfl, b2⟩; have k2 := K.out.1.below b2; have kc0 := k2.c0; have kc1 := k2.c1; have kc2 := k2.c2; have kc3 := k2.c3; obtain ⟨z0, z1, z2, z3⟩ := k2.frz; have K2 := hide' (And.intro k2 b2); clear k2 b2; unfold tokV))
    refine bodyPost_ret_by (results4 rfl _ _ (w.heap.size + 1) _ _ _ _ rfl (K2.out.1.set _ _ _ _)) rfl ?_
    refine ⟨_, rfl, ?_, Below.set4' (K.out.2.trans (K2.out.2.mono (by omega))) (by omega) _ _ _ _⟩
    first | rfl | (rw [if_pos rfl]; rfl)
end Go.Proofs.YtnlopepbcnegbaaGreatDoor
