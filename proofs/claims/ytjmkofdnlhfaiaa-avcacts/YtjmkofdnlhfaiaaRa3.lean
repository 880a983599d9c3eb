import Derived.Test.YtjmkofdnlhfaiaaRa2
set_option linter.unusedVariables false
set_option linter.unusedSimpArgs false
namespace Go.Proofs.Ytjmkofdnlhfaiaa
open Go.RowKit
namespace C
variable {n v : Nat} {s : St} {L : List Dc} {B r hb : Nat} {lo : Option Addr} {lc : Nat} {w w' : World}
theorem fof80 : Try.prog.underlying 80 = some (.struct (Try.prog.fieldsOf 80)) := by kernel_rfl
theorem hld80 : Try.prog.stoodInHeld 80 = false := by kernel_rfl
set_option maxRecDepth 100000 in
theorem flds80 (d : Nat) (a b c a' b' c' : Int) (w : World) : (Op.eqFields (d + 1) #[.int .i64 a, .int .i64 b, .int .i64 c] #[.int .i64 a', .int .i64 b', .int .i64 c'] (Try.prog.fieldsOf 80).toList).run Try.prog w = .ok (decide (a = a' ∧ b = b' ∧ c = c')) w := by
  have h1 : (Try.prog.fieldsOf 80) = (match Try.prog.underlying 80 with | some (.struct fs) => fs | _ => #[]) := rfl
  rw [h1, Try.underlying80]
  simp [Op.eqFields, go_sem, Try.underlying3]
  by_cases h1 : a = a' <;> by_cases h2 : b = b' <;> by_cases h3 : c = c' <;> simp [h1, h2, h3]
theorem struct80 (a b c a' b' c' : Int) (w : World) : (binOp .eql 80 (.agg #[.int .i64 a, .int .i64 b, .int .i64 c]) (.agg #[.int .i64 a', .int .i64 b', .int .i64 c'])).run Try.prog w = .ok (.bool (decide (a = a' ∧ b = b' ∧ c = c'))) w := by
  rw [run_eql_struct]
  have := run_equalIn_agg (P := Try.prog) w 9999 80 #[.int .i64 a, .int .i64 b, .int .i64 c] #[.int .i64 a', .int .i64 b', .int .i64 c'] fof80 hld80
  rw [show (10000 : Nat) = 9999 + 1 from rfl, this, show (9999 : Nat) = 9998 + 1 from rfl, flds80]
  rfl
/-- a box with the triple that is asked for -/
def Tb (x : Nat) (t : Tr) (w : World) : Prop := w.heap[x]? = some (.cells #[.int .i64 t.s, .int .i64 t.o, .int .i64 t.a] 80 (0, 0))
set_option maxRecDepth 100000 in
set_option maxHeartbeats 1000000 in
theorem rof_any (t : Tr) (h : Rf B r hb n v s L lo lc w) : Calls Try.prog 34 #[.pointer (some ⟨r, 0, none⟩), .agg #[.int .i64 t.s, .int .i64 t.o, .int .i64 t.a]] w fun e w' => e = .returned (.int .i64 (idx (fst (ofp L t) L.length))) ∧ Below w.heap.size w w' := by
  obtain ⟨w1, hw1⟩ : ∃ w1, w1 = w.alloc (.cells #[.int .i64 t.s, .int .i64 t.o, .int .i64 t.a] 80) := ⟨_, rfl⟩
  have hb1 : Below w.heap.size w w1 := by rw [hw1]; exact (Below.refl _ _).alloc (Nat.le_refl _) _
  obtain ⟨x, hx⟩ : ∃ x, x = w.heap.size := ⟨_, rfl⟩
  have hbx : Tb x t w1 := by rw [hw1, hx]; exact heap_alloc_new _ _
  have H1 : Hid (Rf B r hb n v s L lo lc w1 ∧ Tb x t w1 ∧ Below w.heap.size w w1) := hide' ⟨h.below hb1, hbx, hb1⟩
  have Hfew := hide' (h.lr.few h.nv.1.2 h.nv.2.2)
  have Hx := hide' hx
  have Hw1 := hide' hw1
  clear h hb1 hbx hx hw1
  go_enter Try.func34, Try.ntmps34
  go_wp2_with fail
  rw [← Hx.out, ← Hw1.out]
  clear Hx Hw1
  go_loopw [5] (fun i wx => ∃ k : Nat, k ≤ L.length ∧ i = .int .i64 (k : Int) ∧ Hid (∀ j, j < k → ofp L t j = false) ∧ Hid (Rf B r hb n v s L lo lc wx ∧ Tb x t wx ∧ Below w.heap.size w wx)) (fun i _ => L.length - (intOf i).toNat)
  case atStart => exact ⟨0, by omega, rfl, hide' (fun j hj => by omega), H1⟩
  case round =>
    clear H1
    obtain ⟨k, hk, rfl, HN, H1⟩ := hrel
    have c3 := H1.out.1.c3
    by_cases hlt : k < L.length
    · have hlt' : (k : Int) < (L.length : Int) := by omega
      have Hw := hide' (wsucN k (by have := Hfew.out; omega))
      obtain ⟨y, hy⟩ : ∃ y, L[k]? = some y := ⟨_, List.getElem?_eq_getElem hlt⟩
      obtain ⟨g, rfl, hc, _⟩ := H1.out.1.ent hy
      have p2 := hc 2 _ rfl
      have p3 := hc 3 _ rfl
      have p4 := hc 4 _ rfl
      have x0 : wr.cell? ⟨x, 0, none⟩ = some (.int .i64 t.s) := by rw [Lib.cell_of_heap H1.out.2.1]; rfl
      have x1 : wr.cell? ⟨x, 1, none⟩ = some (.int .i64 t.o) := by rw [Lib.cell_of_heap H1.out.2.1]; rfl
      have x2 : wr.cell? ⟨x, 2, none⟩ = some (.int .i64 t.a) := by rw [Lib.cell_of_heap H1.out.2.1]; rfl
      have HE : Hid (∀ m, Rf B r hb n v s L (some ⟨g, 0, none⟩) lc (wr.drewN m) ∧ Tb x t (wr.drewN m) ∧ Below w.heap.size w (wr.drewN m)) := hide' (fun m => ⟨H1.out.1.drewN m, H1.out.2.1, H1.out.2.2.trans ((below_drewN wr m).mono H1.out.2.2.size)⟩)
      clear hc H1
      by_cases e : y.d.t = t
      · have Hr := hide' (fst_mk hlt (show ofp L t k = true by unfold ofp; rw [hy]; exact decide_eq_true e) HN.out)
        have he := fun w => struct80 y.d.t.s y.d.t.o y.d.t.a t.s t.o t.a w
        rw [show decide (y.d.t.s = t.s ∧ y.d.t.o = t.o ∧ y.d.t.a = t.a) = true from decide_eq_true (by rw [e]; exact ⟨rfl, rfl, rfl⟩)] at he
        clear hy e HN
        go_wp2_with fail
        go_quiet (fail)
        go_wp2
        go_ret
        rw [Hr.out]
        exact ⟨rfl, (HE.out _).2.2⟩
      · have Hp := hide' (show ofp L t k = false by unfold ofp; rw [hy]; exact decide_eq_false e)
        have he := fun w => struct80 y.d.t.s y.d.t.o y.d.t.a t.s t.o t.a w
        rw [show decide (y.d.t.s = t.s ∧ y.d.t.o = t.o ∧ y.d.t.a = t.a) = false from decide_eq_false (fun q => e (Tr.ext' q.1 q.2.1 q.2.2))] at he
        clear hy e
        go_wp2_with fail
        go_quiet (fail)
        go_wp2
        exact ⟨⟨k + 1, by omega, by rw [Hw.out], hide' (fun j hj => by by_cases q : j = k; (rw [q]; exact Hp.out); exact HN.out j (by omega)), hide' (HE.out _)⟩, msr' hlt _ (Hw.out.trans (by omega))⟩
    · obtain rfl : k = L.length := by omega
      have Hr := hide' (fst_no HN.out)
      have HE := hide' H1.out.2.2
      clear H1
      go_wp2
      go_ret
      rw [Hr.out]
      exact ⟨rfl, HE.out⟩
set_option maxRecDepth 100000 in
set_option maxHeartbeats 1000000 in
theorem rin_any (i j : Nat) (h : Rf B r hb n v s L lo lc w) : Calls Try.prog 36 #[.pointer (some ⟨r, 0, none⟩), .int .i64 (i : Int), .int .i64 (j : Int)] w fun e w' => e = .returned (.int .i64 (idx (fst (inp L i j) L.length))) ∧ w' = w := by
  have c3 := h.c3
  have HH := hide' h
  have Hfew := hide' (h.lr.few h.nv.1.2 h.nv.2.2)
  clear h
  go_enter Try.func36, Try.ntmps36
  go_wp2_with fail
  go_loopw [7] (fun q wx => wx = w ∧ ∃ k : Nat, k ≤ L.length ∧ q = .int .i64 (k : Int) ∧ Hid (∀ m, m < k → inp L i j m = false)) (fun q _ => L.length - (intOf q).toNat)
  case atStart => exact ⟨rfl, 0, by omega, rfl, hide' (fun j hj => by omega)⟩
  case round =>
    obtain ⟨rfl, k, hk, rfl, HN⟩ := hrel
    by_cases hlt : k < L.length
    · have hlt' : (k : Int) < (L.length : Int) := by omega
      have Hw := hide' (wsucN k (by have := Hfew.out; omega))
      obtain ⟨y, hy⟩ : ∃ y, L[k]? = some y := ⟨_, List.getElem?_eq_getElem hlt⟩
      obtain ⟨g, rfl, hc, _⟩ := HH.out.ent hy
      have p0 := hc 0 _ rfl
      have p1 := hc 1 _ rfl
      rw [Nat.add_zero] at p0
      clear hc
      by_cases e1 : y.i = i
      · by_cases e2 : y.j = j
        · have Hr := hide' (fst_mk hlt (show inp L i j k = true by unfold inp; rw [hy]; exact decide_eq_true ⟨e1, e2⟩) HN.out)
          rw [e1] at p0
          rw [e2] at p1
          clear hy e1 e2 HN
          go_wp2
          go_ret
          rw [Hr.out]
          exact ⟨rfl, rfl⟩
        · have Hp := hide' (show inp L i j k = false by unfold inp; rw [hy]; exact decide_eq_false (fun q => e2 q.2))
          rw [e1] at p0
          have e2' : ¬ ((y.j : Nat) : Int) = (j : Int) := by omega
          clear hy e1
          go_wp2
          exact ⟨⟨by trivial, k + 1, by omega, by rw [Hw.out], hide' (fun m hm => by by_cases q : m = k; (rw [q]; exact Hp.out); exact HN.out m (by omega))⟩, msr' hlt _ (Hw.out.trans (by omega))⟩
      · have Hp := hide' (show inp L i j k = false by unfold inp; rw [hy]; exact decide_eq_false (fun q => e1 q.1))
        have e1' : ¬ ((y.i : Nat) : Int) = (i : Int) := by omega
        clear hy
        go_wp2
        exact ⟨⟨by trivial, k + 1, by omega, by rw [Hw.out], hide' (fun m hm => by by_cases q : m = k; (rw [q]; exact Hp.out); exact HN.out m (by omega))⟩, msr' hlt _ (Hw.out.trans (by omega))⟩
    · obtain rfl : k = L.length := by omega
      have Hr := hide' (fst_no HN.out)
      go_wp2
      go_ret
      rw [Hr.out]
      exact ⟨rfl, rfl⟩
end C
end Go.Proofs.Ytjmkofdnlhfaiaa
