import Derived.Test.YtjmkofdnlhfaiaaAvF
set_option linter.unusedVariables false
set_option linter.unusedSimpArgs false
namespace Go.Proofs.Ytjmkofdnlhfaiaa
open Go.RowKit
namespace C
variable {B c g n v : Nat} {b : Nat → Nat} {s : St} {w w' : World}
def pat (bb : Nat) (o : Option Nat) : Value := .pointer (o.map fun j => ⟨bb, j * 7, none⟩)
set_option maxRecDepth 100000 in
set_option maxHeartbeats 1000000 in
theorem room_any {i : Nat} (hi : i < n) (h : Ca B c g n v b s w) : Calls Try.prog 31 #[.pointer (some ⟨g, i * 2, none⟩)] w fun e w' => e = .returned (pat (b i) (fst (fre (s.f i)) v)) ∧ w' = w := by
  have g0 := h.g0 hi
  have HF : Hid (∀ j, j < v → Calls Try.prog 33 #[.pointer (some ⟨b i, j * 7, none⟩)] w fun e w' => e = .returned (.bool (fre (s.f i) j)) ∧ w' = w) := hide' (fun j hj => free_any _ _ _ w (h.range hi hj))
  have v2 := h.v2
  have Hv := hide' v2
  clear h v2
  generalize fre (s.f i) = p at *
  generalize b i = bb at *
  go_enter Try.func31, Try.ntmps31
  go_wp2_with fail
  go_loopw [10] (fun x wx => wx = w ∧ ∃ k : Nat, k ≤ v ∧ x = .int .i64 (k : Int) ∧ Hid (∀ j, j < k → p j = false)) (fun x _ => v - (intOf x).toNat)
  case atStart => exact ⟨rfl, 0, by omega, rfl, hide' (fun j hj => by omega)⟩
  case round =>
    obtain ⟨rfl, k, hk, rfl, hP⟩ := hrel
    by_cases hlt : k < v
    · have hlt' : (k : Int) < (v : Int) := by omega
      have Hw := hide' (wsucN k (by have := Hv.out; omega))
      have HC := hide' (HF.out k hlt)
      cases hp : p k with
      | true =>
        rw [hp] at HC
        have Hr := hide' (fst_mk hlt hp hP.out)
        clear hp
        go_wp2_with fail
        refine HC.out.mono ?_
        rintro e w2 ⟨rfl, rfl⟩
        go_wp2
        go_ret
        rw [Hr.out]
        exact ⟨rfl, rfl⟩
      | false =>
        rw [hp] at HC
        have Hp := hide' hp
        clear hp
        go_wp2_with fail
        refine HC.out.mono ?_
        rintro e w2 ⟨rfl, rfl⟩
        go_wp2
        exact ⟨⟨by trivial, k + 1, by omega, by rw [Hw.out], hide' (fun j hj => by by_cases q : j = k; (rw [q]; exact Hp.out); exact hP.out j (by omega))⟩, msr' hlt _ (Hw.out.trans (by omega))⟩
    · obtain rfl : k = v := by omega
      have Hr := hide' (fst_no hP.out)
      go_wp2
      go_ret
      rw [Hr.out]
      exact ⟨rfl, rfl⟩
set_option maxRecDepth 100000 in
theorem eq70b (a b c a' b' c' : Int) (w : World) : (binOp .eql 70 (.agg #[.int .i64 a, .int .i64 b, .int .i64 c]) (.agg #[.int .i64 a', .int .i64 b', .int .i64 c'])).run Try.prog w = .ok (.bool (decide (a = a' ∧ b = b' ∧ c = c'))) w := by
  have := eq70 9998 a b c a' b' c' w
  simp [go_sem, Try.underlying70, this]
/-- what find reads -/
structure Fi (f : Pf) (t : Tr) (g i v bb x : Nat) (w : World) : Prop where
  g0 : w.cell? ⟨g, i * 2, none⟩ = some (.slice (some ⟨bb, 0, none⟩) v v)
  x0 : w.cell? ⟨x, 0, none⟩ = some (.int .i64 t.s)
  x1 : w.cell? ⟨x, 1, none⟩ = some (.int .i64 t.o)
  x2 : w.cell? ⟨x, 2, none⟩ = some (.int .i64 t.a)
  hr : ∀ j, j < v → w.rangeAt bb (j * 7) (pcs (f j))
theorem Fi.drewN {f : Pf} {t : Tr} {g i v bb x : Nat} {w : World} (h : Fi f t g i v bb x w) (m : Nat) : Fi f t g i v bb x (w.drewN m) := ⟨h.g0, h.x0, h.x1, h.x2, h.hr⟩
set_option maxRecDepth 100000 in
set_option maxHeartbeats 1000000 in
theorem find_any {i : Nat} (t : Tr) (hi : i < n) (h : Ca B c g n v b s w) : Calls Try.prog 30 #[.pointer (some ⟨g, i * 2, none⟩), .agg #[.int .i64 t.s, .int .i64 t.o, .int .i64 t.a]] w fun e w' => e = .returned (pat (b i) (fst (has (s.f i) t) v)) ∧ Below w.heap.size w w' := by
  obtain ⟨w1, hw1⟩ : ∃ w1, w1 = w.alloc (.cells #[.int .i64 t.s, .int .i64 t.o, .int .i64 t.a] 70) := ⟨_, rfl⟩
  have hb1 : Below w.heap.size w w1 := by rw [hw1]; exact (Below.refl _ _).alloc (Nat.le_refl _) _
  have h1 : Ca B c g n v b s w1 := h.below hb1
  obtain ⟨x, hx⟩ : ∃ x, x = w.heap.size := ⟨_, rfl⟩
  have hbx : w1.heap[x]? = some (.cells #[.int .i64 t.s, .int .i64 t.o, .int .i64 t.a] 70 (0, 0)) := by rw [hw1, hx]; exact heap_alloc_new _ _
  have g0' := h1.g0 hi
  rw [hw1] at g0'
  have HF : Hid (Fi (s.f i) t g i v (b i) x w1) := hide' ⟨h1.g0 hi, by rw [Lib.cell_of_heap hbx]; rfl, by rw [Lib.cell_of_heap hbx]; rfl, by rw [Lib.cell_of_heap hbx]; rfl, fun j hj => h1.range hi hj⟩
  have v2 := h.v2
  have Hv := hide' v2
  have Hb := hide' hb1
  have Hx := hide' hx
  have Hw1 := hide' hw1
  clear h v2 h1 hb1 hbx hx hw1
  generalize b i = bb at *
  generalize s.f i = f at *
  go_enter Try.func30, Try.ntmps30
  go_wp2_with fail
  rw [← Hx.out, ← Hw1.out]
  clear Hx Hw1 g0'
  go_loopw [12] (fun q wx => (Hid (Fi f t g i v bb x wx ∧ Below w.heap.size w wx)) ∧ ∃ k : Nat, k ≤ v ∧ q = .int .i64 (k : Int) ∧ Hid (∀ j, j < k → has f t j = false)) (fun q _ => v - (intOf q).toNat)
  case atStart => exact ⟨hide' ⟨HF.out, Hb.out⟩, 0, by omega, rfl, hide' (fun j hj => by omega)⟩
  case round =>
    clear HF Hb
    obtain ⟨HF, k, hk, rfl, hP⟩ := hrel
    have g0 := HF.out.1.g0
    by_cases hlt : k < v
    · have hlt' : (k : Int) < (v : Int) := by omega
      have Hw := hide' (wsucN k (by have := Hv.out; omega))
      have HC : Hid (∀ m, Calls Try.prog 33 #[.pointer (some ⟨bb, k * 7, none⟩)] (wr.drewN m) fun e w' => e = .returned (.bool (f k).isNone) ∧ w' = wr.drewN m) := hide' (fun m => free_any _ _ _ (wr.drewN m) ((HF.out.1.drewN m).hr k hlt))
      have HR := hide' (HF.out.1.hr k hlt)
      have x0 := HF.out.1.x0
      have x1 := HF.out.1.x1
      have x2 := HF.out.1.x2
      have HE : Hid (∀ m, Fi f t g i v bb x (wr.drewN m) ∧ Below w.heap.size w (wr.drewN m)) := hide' (fun m => ⟨HF.out.1.drewN m, HF.out.2.trans ((below_drewN wr m).mono HF.out.2.size)⟩)
      clear HF
      cases hp : f k with
      | none =>
        rw [hp] at HC
        simp only [Option.isNone_none] at HC
        have Hp := hide' (show has f t k = false by unfold has; rw [hp])
        clear hp HR
        go_wp2_with fail
        go_quiet ((go_at_call 33; exact Calls.quiet_of_same (HC.out _)))
        go_wp2
        exact ⟨⟨hide' (HE.out _), k + 1, by omega, by rw [Hw.out], hide' (fun j hj => by by_cases q : j = k; (rw [q]; exact Hp.out); exact hP.out j (by omega))⟩, msr' hlt _ (Hw.out.trans (by omega))⟩
      | some d =>
        rw [hp] at HC HR
        simp only [Option.isNone_some] at HC
        have p1 : wr.cell? ⟨bb, k * 7 + 1, none⟩ = some (.int .i64 d.t.s) := HR.out 1 _ rfl
        have p2 : wr.cell? ⟨bb, k * 7 + 2, none⟩ = some (.int .i64 d.t.o) := HR.out 2 _ rfl
        have p3 : wr.cell? ⟨bb, k * 7 + 3, none⟩ = some (.int .i64 d.t.a) := HR.out 3 _ rfl
        clear HR
        by_cases e : d.t = t
        · have Hr := hide' (fst_mk hlt (has_of hp e) hP.out)
          have he := fun w => eq70b d.t.s d.t.o d.t.a t.s t.o t.a w
          rw [show decide (d.t.s = t.s ∧ d.t.o = t.o ∧ d.t.a = t.a) = true from decide_eq_true (by rw [e]; exact ⟨rfl, rfl, rfl⟩)] at he
          clear hp e
          go_wp2_with fail
          go_quiet ((go_at_call 33; exact Calls.quiet_of_same (HC.out _)))
          go_wp2
          go_ret
          rw [Hr.out]
          exact ⟨rfl, (HE.out _).2⟩
        · have Hp := hide' (show has f t k = false by unfold has; rw [hp]; exact decide_eq_false e)
          have he := fun w => eq70b d.t.s d.t.o d.t.a t.s t.o t.a w
          rw [show decide (d.t.s = t.s ∧ d.t.o = t.o ∧ d.t.a = t.a) = false from decide_eq_false (fun q => e (Tr.ext' q.1 q.2.1 q.2.2))] at he
          clear hp e
          go_wp2_with fail
          go_quiet ((go_at_call 33; exact Calls.quiet_of_same (HC.out _)))
          go_wp2
          exact ⟨⟨hide' (HE.out _), k + 1, by omega, by rw [Hw.out], hide' (fun j hj => by by_cases q : j = k; (rw [q]; exact Hp.out); exact hP.out j (by omega))⟩, msr' hlt _ (Hw.out.trans (by omega))⟩
    · obtain rfl : k = v := by omega
      have Hr := hide' (fst_no hP.out)
      go_wp2
      go_ret
      rw [Hr.out]
      exact ⟨rfl, HF.out.2⟩
end C
end Go.Proofs.Ytjmkofdnlhfaiaa
