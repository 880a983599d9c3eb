import Derived.Test.YtmlhlmiigdddlaaEx7
import Derived.Test.YtmlhlmiigdddlaaFrame
import Derived.Test.YtmlhlmiigdddlaaIns
import Derived.Deep.Slices
import Derived.ChangeMaps
import Derived.Test.YtmlhlmiigdddlaaEpA
import Derived.Test.YtmlhlmiigdddlaaOwnT
import Derived.Deep.CutBlock
import Derived.Deep.DeepCutAuto
import Derived.Deep.CondSized
set_option linter.unusedVariables false
set_option linter.unusedSimpArgs false
namespace Go.Proofs.Ytmlhlmiigdddlaa
open Go.RowKit
namespace V
open M F
variable {w0 w w' : World} {Ln s x y N : Nat}
theorem Wn.same (h : Wn w0 Ln s x y N w) (b : Below w.heap.size w w') : Wn w0 Ln s x y N w' := by
  obtain ⟨bel, U, ws, tr, bad, S, X, G, r, hP, h1, h2, h3, h4, hW, hR⟩ := h
  exact ⟨bel.trans (b.mono bel.size), U, ws, tr, bad, S, X, G, r, hP.below b, h1, h2, h3, h4, hW.below b, hR⟩
theorem pfill_len (ws : List Int) (a n c : Int) : (pfill ws a n c).length = ws.length := by
  unfold pfill
  split
  · exact M.fil_len _ _ _ _
  · rfl
theorem Bs.c3 {q : Nat} {d k n v : Int} (h : Bs q d k n v w) : w.cell? ⟨q, 3, none⟩ = some (.int .i64 v) := by rw [Lib.cell_of_heap h]; rfl
theorem Bs.c0 {q : Nat} {d k n v : Int} (h : Bs q d k n v w) : w.cell? ⟨q, 0, none⟩ = some (.int .i64 d) := by rw [Lib.cell_of_heap h]; rfl
theorem Bs.c1 {q : Nat} {d k n v : Int} (h : Bs q d k n v w) : w.cell? ⟨q, 1, none⟩ = some (.int .i64 k) := by rw [Lib.cell_of_heap h]; rfl
set_option maxRecDepth 100000 in
set_option maxHeartbeats 4000000 in
theorem one_1 (wh nn v : Int) (h : Wn w0 Ln s x y N w) (hN : N < 1999990) (hLn : Ln ≤ 60) :
    Calls Try.prog 12 #[.pointer (some ⟨s, 0, none⟩), .agg #[.int .i64 1, .int .i64 wh, .int .i64 nn, .int .i64 v]] w fun e w' => e = .returned (.tuple #[]) ∧ Wn w0 Ln s x y (N + 1) w' := by
  have hB0 : Below w.heap.size w (w.alloc (.cells #[.int .i64 1, .int .i64 wh, .int .i64 nn, .int .i64 v] 52)) := (Below.refl _ _).alloc (Nat.le_refl _) _
  have hb0 : Bs w.heap.size 1 wh nn v (w.alloc (.cells #[.int .i64 1, .int .i64 wh, .int .i64 nn, .int .i64 v] 52)) := heap_alloc_new _ _
  have HC := hide' (sl_enter wh nn v (h.same hB0) hN hLn)
  have q0 := hb0.c0
  have q1 := hb0.c1
  have q2 := hb0.c2
  have q3 := hb0.c3
  clear h hb0 hB0 hN hLn
  go_enter Try.func12, Try.ntmps12
  go_wp2_with fail
  refine HC.out.mono ?_
  rintro e1 V2 ⟨rfl, h2⟩
  have FF := hide' h2
  clear h2 HC q0 q1 q2 q3
  go_wp2
  go_end0
  exact ⟨rfl, FF.out⟩
set_option maxRecDepth 100000 in
set_option maxHeartbeats 4000000 in
theorem one_4 (wh nn v : Int) (h : Wn w0 Ln s x y N w) (hN : N < 1999990) (hLn : Ln ≤ 60) :
    Calls Try.prog 12 #[.pointer (some ⟨s, 0, none⟩), .agg #[.int .i64 4, .int .i64 wh, .int .i64 nn, .int .i64 v]] w fun e w' => e = .returned (.tuple #[]) ∧ Wn w0 Ln s x y (N + 1) w' := by
  have hB0 : Below w.heap.size w (w.alloc (.cells #[.int .i64 4, .int .i64 wh, .int .i64 nn, .int .i64 v] 52)) := (Below.refl _ _).alloc (Nat.le_refl _) _
  have hb0 : Bs w.heap.size 4 wh nn v (w.alloc (.cells #[.int .i64 4, .int .i64 wh, .int .i64 nn, .int .i64 v] 52)) := heap_alloc_new _ _
  have HC := hide' (sl_leave wh nn v (h.same hB0) hN hLn)
  have q0 := hb0.c0
  have q1 := hb0.c1
  have q2 := hb0.c2
  have q3 := hb0.c3
  clear h hb0 hB0 hN hLn
  go_enter Try.func12, Try.ntmps12
  go_wp2_with fail
  refine HC.out.mono ?_
  rintro e1 V2 ⟨rfl, h2⟩
  have FF := hide' h2
  clear h2 HC q0 q1 q2 q3
  go_wp2
  go_end0
  exact ⟨rfl, FF.out⟩
set_option maxRecDepth 100000 in
set_option maxHeartbeats 4000000 in
theorem one_5 (wh nn v : Int) (h : Wn w0 Ln s x y N w) (hN : N < 1999990) (hLn : Ln ≤ 60) :
    Calls Try.prog 12 #[.pointer (some ⟨s, 0, none⟩), .agg #[.int .i64 5, .int .i64 wh, .int .i64 nn, .int .i64 v]] w fun e w' => e = .returned (.tuple #[]) ∧ Wn w0 Ln s x y (N + 1) w' := by
  have hB0 : Below w.heap.size w (w.alloc (.cells #[.int .i64 5, .int .i64 wh, .int .i64 nn, .int .i64 v] 52)) := (Below.refl _ _).alloc (Nat.le_refl _) _
  have hb0 : Bs w.heap.size 5 wh nn v (w.alloc (.cells #[.int .i64 5, .int .i64 wh, .int .i64 nn, .int .i64 v] 52)) := heap_alloc_new _ _
  have HC := hide' (sl_wait wh nn v (h.same hB0) hN hLn)
  have q0 := hb0.c0
  have q1 := hb0.c1
  have q2 := hb0.c2
  have q3 := hb0.c3
  clear h hb0 hB0 hN hLn
  go_enter Try.func12, Try.ntmps12
  go_wp2_with fail
  refine HC.out.mono ?_
  rintro e1 V2 ⟨rfl, h2⟩
  have FF := hide' h2
  clear h2 HC q0 q1 q2 q3
  go_wp2
  go_end0
  exact ⟨rfl, FF.out⟩
set_option maxRecDepth 100000 in
set_option maxHeartbeats 4000000 in
theorem one_2 (wh nn v : Int) (h : Wn w0 Ln s x y N w) (hN : N < 1999990) (hLn : Ln ≤ 60) :
    Calls Try.prog 12 #[.pointer (some ⟨s, 0, none⟩), .agg #[.int .i64 2, .int .i64 wh, .int .i64 nn, .int .i64 v]] w fun e w' => e = .returned (.tuple #[]) ∧ Wn w0 Ln s x y (N + 1) w' := by
  have hB0 : Below w.heap.size w (w.alloc (.cells #[.int .i64 2, .int .i64 wh, .int .i64 nn, .int .i64 v] 52)) := (Below.refl _ _).alloc (Nat.le_refl _) _
  have hb0 : Bs w.heap.size 2 wh nn v (w.alloc (.cells #[.int .i64 2, .int .i64 wh, .int .i64 nn, .int .i64 v] 52)) := heap_alloc_new _ _
  have HC := hide' (se_step wh nn v (h.same hB0) hN hLn)
  have q0 := hb0.c0
  have q1 := hb0.c1
  have q2 := hb0.c2
  have q3 := hb0.c3
  clear h hb0 hB0 hN hLn
  go_enter Try.func12, Try.ntmps12
  go_wp2_with fail
  refine HC.out.mono ?_
  rintro e1 V2 ⟨rfl, h2⟩
  have FF := hide' h2
  clear h2 HC q0 q1 q2 q3
  go_wp2
  go_end0
  exact ⟨rfl, FF.out⟩
set_option maxRecDepth 100000 in
set_option maxHeartbeats 4000000 in
theorem one_3 (wh nn v : Int) (h : Wn w0 Ln s x y N w) (hN : N < 1999990) (hLn : Ln ≤ 60) :
    Calls Try.prog 12 #[.pointer (some ⟨s, 0, none⟩), .agg #[.int .i64 3, .int .i64 wh, .int .i64 nn, .int .i64 v]] w fun e w' => e = .returned (.tuple #[]) ∧ Wn w0 Ln s x y (N + 1) w' := by
  have hB0 : Below w.heap.size w (w.alloc (.cells #[.int .i64 3, .int .i64 wh, .int .i64 nn, .int .i64 v] 52)) := (Below.refl _ _).alloc (Nat.le_refl _) _
  have hb0 : Bs w.heap.size 3 wh nn v (w.alloc (.cells #[.int .i64 3, .int .i64 wh, .int .i64 nn, .int .i64 v] 52)) := heap_alloc_new _ _
  have HC := hide' (se_mark wh nn v (h.same hB0) hN hLn)
  have q0 := hb0.c0
  have q1 := hb0.c1
  have q2 := hb0.c2
  have q3 := hb0.c3
  clear h hb0 hB0 hN hLn
  go_enter Try.func12, Try.ntmps12
  go_wp2_with fail
  refine HC.out.mono ?_
  rintro e1 V2 ⟨rfl, h2⟩
  have FF := hide' h2
  clear h2 HC q0 q1 q2 q3
  go_wp2
  go_end0
  exact ⟨rfl, FF.out⟩
set_option maxRecDepth 100000 in
set_option maxHeartbeats 4000000 in
theorem one_6 (wh nn v : Int) (h : Wn w0 Ln s x y N w) (hN : N < 1999990) (hLn : Ln ≤ 60) :
    Calls Try.prog 12 #[.pointer (some ⟨s, 0, none⟩), .agg #[.int .i64 6, .int .i64 wh, .int .i64 nn, .int .i64 v]] w fun e w' => e = .returned (.tuple #[]) ∧ Wn w0 Ln s x y (N + 1) w' := by
  have hB0 : Below w.heap.size w (w.alloc (.cells #[.int .i64 6, .int .i64 wh, .int .i64 nn, .int .i64 v] 52)) := (Below.refl _ _).alloc (Nat.le_refl _) _
  have hb0 : Bs w.heap.size 6 wh nn v (w.alloc (.cells #[.int .i64 6, .int .i64 wh, .int .i64 nn, .int .i64 v] 52)) := heap_alloc_new _ _
  have HC := hide' (gr_step wh nn v (h.same hB0) hN hLn)
  have q0 := hb0.c0
  have q1 := hb0.c1
  have q2 := hb0.c2
  have q3 := hb0.c3
  clear h hb0 hB0 hN hLn
  go_enter Try.func12, Try.ntmps12
  go_wp2_with fail
  refine HC.out.mono ?_
  rintro e1 V2 ⟨rfl, h2⟩
  have FF := hide' h2
  clear h2 HC q0 q1 q2 q3
  go_wp2
  go_end0
  exact ⟨rfl, FF.out⟩
set_option maxRecDepth 100000 in
set_option maxHeartbeats 4000000 in
theorem one_7 (wh nn v : Int) (h : Wn w0 Ln s x y N w) (hN : N < 1999990) (hLn : Ln ≤ 60) :
    Calls Try.prog 12 #[.pointer (some ⟨s, 0, none⟩), .agg #[.int .i64 7, .int .i64 wh, .int .i64 nn, .int .i64 v]] w fun e w' => e = .returned (.tuple #[]) ∧ Wn w0 Ln s x y (N + 1) w' := by
  have hB0 : Below w.heap.size w (w.alloc (.cells #[.int .i64 7, .int .i64 wh, .int .i64 nn, .int .i64 v] 52)) := (Below.refl _ _).alloc (Nat.le_refl _) _
  have hb0 : Bs w.heap.size 7 wh nn v (w.alloc (.cells #[.int .i64 7, .int .i64 wh, .int .i64 nn, .int .i64 v] 52)) := heap_alloc_new _ _
  have HC := hide' (gr_ready wh nn v (h.same hB0) hN hLn)
  have q0 := hb0.c0
  have q1 := hb0.c1
  have q2 := hb0.c2
  have q3 := hb0.c3
  clear h hb0 hB0 hN hLn
  go_enter Try.func12, Try.ntmps12
  go_wp2_with fail
  refine HC.out.mono ?_
  rintro e1 V2 ⟨rfl, h2⟩
  have FF := hide' h2
  clear h2 HC q0 q1 q2 q3
  go_wp2
  go_end0
  exact ⟨rfl, FF.out⟩
set_option maxRecDepth 100000 in
set_option maxHeartbeats 4000000 in
theorem one_8 (wh nn v : Int) (h : Wn w0 Ln s x y N w) (hN : N < 1999990) (hLn : Ln ≤ 60) :
    Calls Try.prog 12 #[.pointer (some ⟨s, 0, none⟩), .agg #[.int .i64 8, .int .i64 wh, .int .i64 nn, .int .i64 v]] w fun e w' => e = .returned (.tuple #[]) ∧ Wn w0 Ln s x y (N + 1) w' := by
  have hB0 : Below w.heap.size w (w.alloc (.cells #[.int .i64 8, .int .i64 wh, .int .i64 nn, .int .i64 v] 52)) := (Below.refl _ _).alloc (Nat.le_refl _) _
  have hb0 : Bs w.heap.size 8 wh nn v (w.alloc (.cells #[.int .i64 8, .int .i64 wh, .int .i64 nn, .int .i64 v] 52)) := heap_alloc_new _ _
  have HC := hide' (gr_at wh nn v (h.same hB0) hN hLn)
  have q0 := hb0.c0
  have q1 := hb0.c1
  have q2 := hb0.c2
  have q3 := hb0.c3
  clear h hb0 hB0 hN hLn
  go_enter Try.func12, Try.ntmps12
  go_wp2_with fail
  refine HC.out.mono ?_
  rintro e1 V2 ⟨rfl, h2⟩
  have FF := hide' h2
  clear h2 HC q0 q1 q2 q3
  go_wp2
  go_end0
  exact ⟨rfl, FF.out⟩
set_option maxRecDepth 100000 in
set_option maxHeartbeats 4000000 in
theorem one_9 (wh nn v : Int) (h : Wn w0 Ln s x y N w) (hN : N < 1999990) (hLn : Ln ≤ 60) :
    Calls Try.prog 12 #[.pointer (some ⟨s, 0, none⟩), .agg #[.int .i64 9, .int .i64 wh, .int .i64 nn, .int .i64 v]] w fun e w' => e = .returned (.tuple #[]) ∧ Wn w0 Ln s x y (N + 1) w' := by
  obtain ⟨bel, U, ws, tr, bad, S, X, G, r, hP, h1, h2, h3, h4, hW, hRt⟩ := h
  obtain ⟨D, R, hM, hR, hdis, hU⟩ := hP
  have hB0 : Below w.heap.size w (w.alloc (.cells #[.int .i64 9, .int .i64 wh, .int .i64 nn, .int .i64 v] 52)) := (Below.refl _ _).alloc (Nat.le_refl _) _
  have hb0 : Bs w.heap.size 9 wh nn v (w.alloc (.cells #[.int .i64 9, .int .i64 wh, .int .i64 nn, .int .i64 v] 52)) := heap_alloc_new _ _
  have HS := hide' (And.intro (bel.trans (hB0.mono bel.size)) (And.intro (hM.below hB0) (And.intro (hR.below hB0) (And.intro (hW.below hB0) hb0))))
  have HP := hide' (And.intro hdis (And.intro h1 (And.intro h2 (And.intro h3 (And.intro h4 (And.intro hRt hN))))))
  have s0 := (hW.below hB0).c0
  have q0 := hb0.c0
  have q2 := hb0.c2
  have q3 := hb0.c3
  clear bel hM hR hdis hU h1 h2 h3 h4 hW hRt hb0 hB0 hN hLn
  obtain ⟨β, hβ⟩ : ∃ β, w.heap.size = β := ⟨_, rfl⟩
  rw [hβ] at HS q0 q2 q3
  go_enter Try.func12, Try.ntmps12
  go_wp2_with fail
  generalize (w.alloc (.cells #[.int .i64 9, .int .i64 wh, .int .i64 nn, .int .i64 v] 52)) = V1 at *
  clear hβ
  have HC : Hid (Calls Try.prog 20 #[.pointer (some ⟨x, 0, none⟩), .int .i64 nn, .int .i64 v] V1.drew fun e V' => e = .returned (.int .i64 (er ws nn)) ∧ To D w0.heap.size x (put ws nn v) (tr ++ [⟨2, nn, v, std ws nn, good ws nn⟩]) (bad + bd ws nn) V1 V') := hide' ((M.store_any nn v HS.out.2.1.drew (by have := HP.out; omega)).mono fun e V' ⟨h1, h2⟩ => ⟨h1, To.drew h2⟩)
  have HK2 : Hid (∀ V2, To D w0.heap.size x (put ws nn v) (tr ++ [⟨2, nn, v, std ws nn, good ws nn⟩]) (bad + bd ws nn) V1 V2 → Ws w0.heap.size s x y r (rsOf S X G) (fmOf x y S X G) true V2 ∧ Bs β 9 wh nn v V2 ∧ Rem R w0.heap.size y ws N tr bad V2) := hide' (fun V2 t2 => by
    have hr2 := rem_behind HS.out.2.2.1 HP.out.1 t2
    obtain ⟨D2, m2, t, q⟩ := t2
    exact ⟨HS.out.2.2.2.1.mem HS.out.2.1 t, HS.out.2.2.2.2.kept t (HS.out.2.1.not HS.out.2.2.2.2 (by decide)), hr2⟩)
  have HFN : Hid (∀ V2 V3, To D w0.heap.size x (put ws nn v) (tr ++ [⟨2, nn, v, std ws nn, good ws nn⟩]) (bad + bd ws nn) V1 V2 → RTo R w0.heap.size y (put ws nn v) (N + 1) (tr ++ [⟨2, nn, v, std ws nn, good ws nn⟩]) (bad + bd ws nn) V2 V3 → Ws w0.heap.size s x y r (rsOf S X G) (fmOf x y S X G) true V3 ∧ Wn w0 Ln s x y (N + 1) V3) := hide' (fun V2 V3 t2 t3 => to_fin HS.out.1 HS.out.2.1 HS.out.2.2.1 HP.out.1 HS.out.2.2.2.1 t2 t3 (by rw [put_len]; exact HP.out.2.1) (by rw [List.length_append]; have := HP.out.2.2.1; simp; omega) HP.out.2.2.2.1 HP.out.2.2.2.2.1 HP.out.2.2.2.2.2.1)
  have HR2 : Hid (∀ V2, To D w0.heap.size x (put ws nn v) (tr ++ [⟨2, nn, v, std ws nn, good ws nn⟩]) (bad + bd ws nn) V1 V2 → Calls Try.prog 37 #[.pointer (some ⟨y, 0, none⟩), .int .i64 nn, .int .i64 v] V2.drew fun e V' => e = .returned (.int .i64 (er ws nn)) ∧ RTo R w0.heap.size y (put ws nn v) (N + 1) (tr ++ [⟨2, nn, v, std ws nn, good ws nn⟩]) (bad + bd ws nn) V2 V') := hide' (fun V2 t2 => by
    have hr2 := (HK2.out V2 t2).2.2
    exact (F.store_any nn v (Rem.drew hr2) (by have := HP.out; omega) (by have := HP.out; omega)).mono fun e V' ⟨h1, h2⟩ => ⟨h1, RTo.drew h2⟩)
  have HK3 : Hid (∀ V2 V3, To D w0.heap.size x (put ws nn v) (tr ++ [⟨2, nn, v, std ws nn, good ws nn⟩]) (bad + bd ws nn) V1 V2 → RTo R w0.heap.size y (put ws nn v) (N + 1) (tr ++ [⟨2, nn, v, std ws nn, good ws nn⟩]) (bad + bd ws nn) V2 V3 → Bs β 9 wh nn v V3) := hide' (fun V2 V3 t2 t3 => by
    obtain ⟨k1, k2, k3⟩ := HK2.out V2 t2
    obtain ⟨R3, m3, t, q⟩ := t3
    exact k2.kept t (k3.not k2 (by decide)))
  go_region_held3 (fun w' => w'.cell? ⟨s, 0, none⟩ = some (.pointer (some ⟨x, 0, none⟩)) ∧ w'.cell? ⟨β, 2, none⟩ = some (.int .i64 nn) ∧ w'.cell? ⟨β, 3, none⟩ = some (.int .i64 v)) (first | exact ⟨s0, q2, q3⟩ | exact k2) ((go_at_call 20; refine HC.out.mono ?_; rintro e1 V2 ⟨rfl, t2⟩; have kw := HK2.out V2 t2; have k2 : V2.cell? ⟨s, 0, none⟩ = some (.pointer (some ⟨x, 0, none⟩)) ∧ V2.cell? ⟨β, 2, none⟩ = some (.int .i64 nn) ∧ V2.cell? ⟨β, 3, none⟩ = some (.int .i64 v) := ⟨kw.1.c0, kw.2.1.c2, kw.2.1.c3⟩))
  rename_i hHeld
  clear hHeld
  have s1 := kw.1.c1
  have p2 := kw.2.1.c2
  have p3 := kw.2.1.c3
  have HC2 := hide' (HR2.out V2 t2)
  have T2 := hide' t2
  clear k2 HC t2 s0 q0 q2 q3 HR2 kw
  go_wp2_with fail
  go_region_held3 (fun w' => w'.cell? ⟨s, 1, none⟩ = some (.pointer (some ⟨y, 0, none⟩)) ∧ w'.cell? ⟨β, 2, none⟩ = some (.int .i64 nn) ∧ w'.cell? ⟨β, 3, none⟩ = some (.int .i64 v)) (first | exact ⟨s1, p2, p3⟩ | exact k3) ((go_at_call 37; refine HC2.out.mono ?_; rintro e1 V3 ⟨rfl, t3⟩; have kw := HFN.out V2 V3 T2.out t3; have kb := HK3.out V2 V3 T2.out t3; have k3 : V3.cell? ⟨s, 1, none⟩ = some (.pointer (some ⟨y, 0, none⟩)) ∧ V3.cell? ⟨β, 2, none⟩ = some (.int .i64 nn) ∧ V3.cell? ⟨β, 3, none⟩ = some (.int .i64 v) := ⟨kw.1.c1, kb.c2, kb.c3⟩))
  rename_i hHeld
  clear hHeld
  have FF := hide' kw.2
  clear HC2 HFN HK2 HK3 HS HP kw kb k3 t3 T2 s1 p2 p3
  go_wp2
  go_end0
  exact ⟨rfl, FF.out⟩
set_option maxRecDepth 100000 in
set_option maxHeartbeats 4000000 in
theorem one_10 (wh nn v : Int) (h : Wn w0 Ln s x y N w) (hN : N < 1999990) (hLn : Ln ≤ 60) :
    Calls Try.prog 12 #[.pointer (some ⟨s, 0, none⟩), .agg #[.int .i64 10, .int .i64 wh, .int .i64 nn, .int .i64 v]] w fun e w' => e = .returned (.tuple #[]) ∧ Wn w0 Ln s x y (N + 1) w' := by
  obtain ⟨bel, U, ws, tr, bad, S, X, G, r, hP, h1, h2, h3, h4, hW, hRt⟩ := h
  obtain ⟨D, R, hM, hR, hdis, hU⟩ := hP
  have hB0 : Below w.heap.size w (w.alloc (.cells #[.int .i64 10, .int .i64 wh, .int .i64 nn, .int .i64 v] 52)) := (Below.refl _ _).alloc (Nat.le_refl _) _
  have hb0 : Bs w.heap.size 10 wh nn v (w.alloc (.cells #[.int .i64 10, .int .i64 wh, .int .i64 nn, .int .i64 v] 52)) := heap_alloc_new _ _
  have HS := hide' (And.intro (bel.trans (hB0.mono bel.size)) (And.intro (hM.below hB0) (And.intro (hR.below hB0) (And.intro (hW.below hB0) hb0))))
  have HP := hide' (And.intro hdis (And.intro h1 (And.intro h2 (And.intro h3 (And.intro h4 (And.intro hRt hN))))))
  have s0 := (hW.below hB0).c0
  have q0 := hb0.c0
  have q2 := hb0.c2
  have q3 := hb0.c3
  clear bel hM hR hdis hU h1 h2 h3 h4 hW hRt hb0 hB0 hN hLn
  obtain ⟨β, hβ⟩ : ∃ β, w.heap.size = β := ⟨_, rfl⟩
  rw [hβ] at HS q0 q2 q3
  go_enter Try.func12, Try.ntmps12
  go_wp2_with fail
  generalize (w.alloc (.cells #[.int .i64 10, .int .i64 wh, .int .i64 nn, .int .i64 v] 52)) = V1 at *
  clear hβ
  have HC : Hid (Calls Try.prog 38 #[.pointer (some ⟨x, 0, none⟩), .int .i64 nn, .int .i64 1] V1.drew fun e V' => e = .returned (.int .i64 (pe ws nn 1)) ∧ To D w0.heap.size x (pfill ws nn 1 P) tr bad V1 V') := hide' ((M.poison_any nn 1 HS.out.2.1.drew (by omega)).mono fun e V' ⟨h1, h2, h3⟩ => ⟨h1, To.drew (fill_to h2 h3)⟩)
  have HK2 : Hid (∀ V2, To D w0.heap.size x (pfill ws nn 1 P) tr bad V1 V2 → Ws w0.heap.size s x y r (rsOf S X G) (fmOf x y S X G) true V2 ∧ Bs β 10 wh nn v V2 ∧ Rem R w0.heap.size y ws N tr bad V2) := hide' (fun V2 t2 => by
    have hr2 := rem_behind HS.out.2.2.1 HP.out.1 t2
    obtain ⟨D2, m2, t, q⟩ := t2
    exact ⟨HS.out.2.2.2.1.mem HS.out.2.1 t, HS.out.2.2.2.2.kept t (HS.out.2.1.not HS.out.2.2.2.2 (by decide)), hr2⟩)
  have HFN : Hid (∀ V2 V3, To D w0.heap.size x (pfill ws nn 1 P) tr bad V1 V2 → RTo R w0.heap.size y (pfill ws nn 1 P) (N + 1) tr bad V2 V3 → Ws w0.heap.size s x y r (rsOf S X G) (fmOf x y S X G) true V3 ∧ Wn w0 Ln s x y (N + 1) V3) := hide' (fun V2 V3 t2 t3 => to_fin HS.out.1 HS.out.2.1 HS.out.2.2.1 HP.out.1 HS.out.2.2.2.1 t2 t3 (by rw [pfill_len]; exact HP.out.2.1) (by have := HP.out.2.2.1; omega) HP.out.2.2.2.1 HP.out.2.2.2.2.1 HP.out.2.2.2.2.2.1)
  have HR2 : Hid (∀ V2, To D w0.heap.size x (pfill ws nn 1 P) tr bad V1 V2 → Calls Try.prog 39 #[.pointer (some ⟨y, 0, none⟩), .int .i64 nn, .int .i64 1] V2.drew fun e V' => e = .returned (.int .i64 (pe ws nn 1)) ∧ RTo R w0.heap.size y (pfill ws nn 1 P) (N + 1) tr bad V2 V') := hide' (fun V2 t2 => by
    have hr2 := (HK2.out V2 t2).2.2
    exact (F.poison_any nn 1 (Rem.drew hr2) (by have := HP.out; omega) (by omega)).mono fun e V' ⟨h1, h2⟩ => ⟨h1, RTo.drew h2⟩)
  have HK3 : Hid (∀ V2 V3, To D w0.heap.size x (pfill ws nn 1 P) tr bad V1 V2 → RTo R w0.heap.size y (pfill ws nn 1 P) (N + 1) tr bad V2 V3 → Bs β 10 wh nn v V3) := hide' (fun V2 V3 t2 t3 => by
    obtain ⟨k1, k2, k3⟩ := HK2.out V2 t2
    obtain ⟨R3, m3, t, q⟩ := t3
    exact k2.kept t (k3.not k2 (by decide)))
  go_region_held3 (fun w' => w'.cell? ⟨s, 0, none⟩ = some (.pointer (some ⟨x, 0, none⟩)) ∧ w'.cell? ⟨β, 2, none⟩ = some (.int .i64 nn) ∧ w'.cell? ⟨β, 3, none⟩ = some (.int .i64 v)) (first | exact ⟨s0, q2, q3⟩ | exact k2) ((go_at_call 38; refine HC.out.mono ?_; rintro e1 V2 ⟨rfl, t2⟩; have kw := HK2.out V2 t2; have k2 : V2.cell? ⟨s, 0, none⟩ = some (.pointer (some ⟨x, 0, none⟩)) ∧ V2.cell? ⟨β, 2, none⟩ = some (.int .i64 nn) ∧ V2.cell? ⟨β, 3, none⟩ = some (.int .i64 v) := ⟨kw.1.c0, kw.2.1.c2, kw.2.1.c3⟩))
  rename_i hHeld
  clear hHeld
  have s1 := kw.1.c1
  have p2 := kw.2.1.c2
  have p3 := kw.2.1.c3
  have HC2 := hide' (HR2.out V2 t2)
  have T2 := hide' t2
  clear k2 HC t2 s0 q0 q2 q3 HR2 kw
  go_wp2_with fail
  go_region_held3 (fun w' => w'.cell? ⟨s, 1, none⟩ = some (.pointer (some ⟨y, 0, none⟩)) ∧ w'.cell? ⟨β, 2, none⟩ = some (.int .i64 nn) ∧ w'.cell? ⟨β, 3, none⟩ = some (.int .i64 v)) (first | exact ⟨s1, p2, p3⟩ | exact k3) ((go_at_call 39; refine HC2.out.mono ?_; rintro e1 V3 ⟨rfl, t3⟩; have kw := HFN.out V2 V3 T2.out t3; have kb := HK3.out V2 V3 T2.out t3; have k3 : V3.cell? ⟨s, 1, none⟩ = some (.pointer (some ⟨y, 0, none⟩)) ∧ V3.cell? ⟨β, 2, none⟩ = some (.int .i64 nn) ∧ V3.cell? ⟨β, 3, none⟩ = some (.int .i64 v) := ⟨kw.1.c1, kb.c2, kb.c3⟩))
  rename_i hHeld
  clear hHeld
  have FF := hide' kw.2
  clear HC2 HFN HK2 HK3 HS HP kw kb k3 t3 T2 s1 p2 p3
  go_wp2
  go_end0
  exact ⟨rfl, FF.out⟩
set_option maxRecDepth 100000 in
set_option maxHeartbeats 4000000 in
theorem one_11 (wh nn v : Int) (h : Wn w0 Ln s x y N w) (hN : N < 1999990) (hLn : Ln ≤ 60) :
    Calls Try.prog 12 #[.pointer (some ⟨s, 0, none⟩), .agg #[.int .i64 11, .int .i64 wh, .int .i64 nn, .int .i64 v]] w fun e w' => e = .returned (.tuple #[]) ∧ Wn w0 Ln s x y (N + 1) w' := by
  obtain ⟨bel, U, ws, tr, bad, S, X, G, r, hP, h1, h2, h3, h4, hW, hRt⟩ := h
  obtain ⟨D, R, hM, hR, hdis, hU⟩ := hP
  have hB0 : Below w.heap.size w (w.alloc (.cells #[.int .i64 11, .int .i64 wh, .int .i64 nn, .int .i64 v] 52)) := (Below.refl _ _).alloc (Nat.le_refl _) _
  have hb0 : Bs w.heap.size 11 wh nn v (w.alloc (.cells #[.int .i64 11, .int .i64 wh, .int .i64 nn, .int .i64 v] 52)) := heap_alloc_new _ _
  have HS := hide' (And.intro (bel.trans (hB0.mono bel.size)) (And.intro (hM.below hB0) (And.intro (hR.below hB0) (And.intro (hW.below hB0) hb0))))
  have HP := hide' (And.intro hdis (And.intro h1 (And.intro h2 (And.intro h3 (And.intro h4 (And.intro hRt hN))))))
  have s0 := (hW.below hB0).c0
  have q0 := hb0.c0
  have q2 := hb0.c2
  have q3 := hb0.c3
  clear bel hM hR hdis hU h1 h2 h3 h4 hW hRt hb0 hB0 hN hLn
  obtain ⟨β, hβ⟩ : ∃ β, w.heap.size = β := ⟨_, rfl⟩
  rw [hβ] at HS q0 q2 q3
  go_enter Try.func12, Try.ntmps12
  go_wp2_with fail
  generalize (w.alloc (.cells #[.int .i64 11, .int .i64 wh, .int .i64 nn, .int .i64 v] 52)) = V1 at *
  clear hβ
  have HC : Hid (Calls Try.prog 40 #[.pointer (some ⟨x, 0, none⟩), .int .i64 nn, .int .i64 1] V1.drew fun e V' => e = .returned (.int .i64 (pe ws nn 1)) ∧ To D w0.heap.size x (pfill ws nn 1 0) tr bad V1 V') := hide' ((M.clear_any nn 1 HS.out.2.1.drew (by omega)).mono fun e V' ⟨h1, h2, h3⟩ => ⟨h1, To.drew (fill_to h2 h3)⟩)
  have HK2 : Hid (∀ V2, To D w0.heap.size x (pfill ws nn 1 0) tr bad V1 V2 → Ws w0.heap.size s x y r (rsOf S X G) (fmOf x y S X G) true V2 ∧ Bs β 11 wh nn v V2 ∧ Rem R w0.heap.size y ws N tr bad V2) := hide' (fun V2 t2 => by
    have hr2 := rem_behind HS.out.2.2.1 HP.out.1 t2
    obtain ⟨D2, m2, t, q⟩ := t2
    exact ⟨HS.out.2.2.2.1.mem HS.out.2.1 t, HS.out.2.2.2.2.kept t (HS.out.2.1.not HS.out.2.2.2.2 (by decide)), hr2⟩)
  have HFN : Hid (∀ V2 V3, To D w0.heap.size x (pfill ws nn 1 0) tr bad V1 V2 → RTo R w0.heap.size y (pfill ws nn 1 0) (N + 1) tr bad V2 V3 → Ws w0.heap.size s x y r (rsOf S X G) (fmOf x y S X G) true V3 ∧ Wn w0 Ln s x y (N + 1) V3) := hide' (fun V2 V3 t2 t3 => to_fin HS.out.1 HS.out.2.1 HS.out.2.2.1 HP.out.1 HS.out.2.2.2.1 t2 t3 (by rw [pfill_len]; exact HP.out.2.1) (by have := HP.out.2.2.1; omega) HP.out.2.2.2.1 HP.out.2.2.2.2.1 HP.out.2.2.2.2.2.1)
  have HR2 : Hid (∀ V2, To D w0.heap.size x (pfill ws nn 1 0) tr bad V1 V2 → Calls Try.prog 41 #[.pointer (some ⟨y, 0, none⟩), .int .i64 nn, .int .i64 1] V2.drew fun e V' => e = .returned (.int .i64 (pe ws nn 1)) ∧ RTo R w0.heap.size y (pfill ws nn 1 0) (N + 1) tr bad V2 V') := hide' (fun V2 t2 => by
    have hr2 := (HK2.out V2 t2).2.2
    exact (F.clear_any nn 1 (Rem.drew hr2) (by have := HP.out; omega) (by omega)).mono fun e V' ⟨h1, h2⟩ => ⟨h1, RTo.drew h2⟩)
  have HK3 : Hid (∀ V2 V3, To D w0.heap.size x (pfill ws nn 1 0) tr bad V1 V2 → RTo R w0.heap.size y (pfill ws nn 1 0) (N + 1) tr bad V2 V3 → Bs β 11 wh nn v V3) := hide' (fun V2 V3 t2 t3 => by
    obtain ⟨k1, k2, k3⟩ := HK2.out V2 t2
    obtain ⟨R3, m3, t, q⟩ := t3
    exact k2.kept t (k3.not k2 (by decide)))
  go_region_held3 (fun w' => w'.cell? ⟨s, 0, none⟩ = some (.pointer (some ⟨x, 0, none⟩)) ∧ w'.cell? ⟨β, 2, none⟩ = some (.int .i64 nn) ∧ w'.cell? ⟨β, 3, none⟩ = some (.int .i64 v)) (first | exact ⟨s0, q2, q3⟩ | exact k2) ((go_at_call 40; refine HC.out.mono ?_; rintro e1 V2 ⟨rfl, t2⟩; have kw := HK2.out V2 t2; have k2 : V2.cell? ⟨s, 0, none⟩ = some (.pointer (some ⟨x, 0, none⟩)) ∧ V2.cell? ⟨β, 2, none⟩ = some (.int .i64 nn) ∧ V2.cell? ⟨β, 3, none⟩ = some (.int .i64 v) := ⟨kw.1.c0, kw.2.1.c2, kw.2.1.c3⟩))
  rename_i hHeld
  clear hHeld
  have s1 := kw.1.c1
  have p2 := kw.2.1.c2
  have p3 := kw.2.1.c3
  have HC2 := hide' (HR2.out V2 t2)
  have T2 := hide' t2
  clear k2 HC t2 s0 q0 q2 q3 HR2 kw
  go_wp2_with fail
  go_region_held3 (fun w' => w'.cell? ⟨s, 1, none⟩ = some (.pointer (some ⟨y, 0, none⟩)) ∧ w'.cell? ⟨β, 2, none⟩ = some (.int .i64 nn) ∧ w'.cell? ⟨β, 3, none⟩ = some (.int .i64 v)) (first | exact ⟨s1, p2, p3⟩ | exact k3) ((go_at_call 41; refine HC2.out.mono ?_; rintro e1 V3 ⟨rfl, t3⟩; have kw := HFN.out V2 V3 T2.out t3; have kb := HK3.out V2 V3 T2.out t3; have k3 : V3.cell? ⟨s, 1, none⟩ = some (.pointer (some ⟨y, 0, none⟩)) ∧ V3.cell? ⟨β, 2, none⟩ = some (.int .i64 nn) ∧ V3.cell? ⟨β, 3, none⟩ = some (.int .i64 v) := ⟨kw.1.c1, kb.c2, kb.c3⟩))
  rename_i hHeld
  clear hHeld
  have FF := hide' kw.2
  clear HC2 HFN HK2 HK3 HS HP kw kb k3 t3 T2 s1 p2 p3
  go_wp2
  go_end0
  exact ⟨rfl, FF.out⟩
set_option maxRecDepth 100000 in
set_option maxHeartbeats 4000000 in
theorem one_other (d wh nn v : Int) (h : Wn w0 Ln s x y N w) (hd : ∀ k : Int, 1 ≤ k → k ≤ 11 → d ≠ k) :
    Calls Try.prog 12 #[.pointer (some ⟨s, 0, none⟩), .agg #[.int .i64 d, .int .i64 wh, .int .i64 nn, .int .i64 v]] w fun e w' => e = .returned (.tuple #[]) ∧ Wn w0 Ln s x y (N + 1) w' := by
  have hB0 : Below w.heap.size w (w.alloc (.cells #[.int .i64 d, .int .i64 wh, .int .i64 nn, .int .i64 v] 52)) := (Below.refl _ _).alloc (Nat.le_refl _) _
  have hb0 : Bs w.heap.size d wh nn v (w.alloc (.cells #[.int .i64 d, .int .i64 wh, .int .i64 nn, .int .i64 v] 52)) := heap_alloc_new _ _
  have FF := hide' (h.quiet hB0)
  have q0 := hb0.c0
  have d1 : (d == 1) = false := by rw [beq_eq_false_iff_ne]; exact hd 1 (by omega) (by omega)
  have d2 : (d == 2) = false := by rw [beq_eq_false_iff_ne]; exact hd 2 (by omega) (by omega)
  have d3 : (d == 3) = false := by rw [beq_eq_false_iff_ne]; exact hd 3 (by omega) (by omega)
  have d4 : (d == 4) = false := by rw [beq_eq_false_iff_ne]; exact hd 4 (by omega) (by omega)
  have d5 : (d == 5) = false := by rw [beq_eq_false_iff_ne]; exact hd 5 (by omega) (by omega)
  have d6 : (d == 6) = false := by rw [beq_eq_false_iff_ne]; exact hd 6 (by omega) (by omega)
  have d7 : (d == 7) = false := by rw [beq_eq_false_iff_ne]; exact hd 7 (by omega) (by omega)
  have d8 : (d == 8) = false := by rw [beq_eq_false_iff_ne]; exact hd 8 (by omega) (by omega)
  have d9 : (d == 9) = false := by rw [beq_eq_false_iff_ne]; exact hd 9 (by omega) (by omega)
  have d10 : (d == 10) = false := by rw [beq_eq_false_iff_ne]; exact hd 10 (by omega) (by omega)
  have d11 : (d == 11) = false := by rw [beq_eq_false_iff_ne]; exact hd 11 (by omega) (by omega)
  clear h hb0 hB0 hd
  go_enter Try.func12, Try.ntmps12
  go_wp2
  go_end0
  exact ⟨rfl, FF.out⟩
theorem one_all (d wh nn v : Int) (h : Wn w0 Ln s x y N w) (hN : N < 1999990) (hLn : Ln ≤ 60) :
    Calls Try.prog 12 #[.pointer (some ⟨s, 0, none⟩), .agg #[.int .i64 d, .int .i64 wh, .int .i64 nn, .int .i64 v]] w fun e w' => e = .returned (.tuple #[]) ∧ Wn w0 Ln s x y (N + 1) w' := by
  by_cases h1 : d = 1
  · subst h1; exact one_1 wh nn v h hN hLn
  by_cases h2 : d = 2
  · subst h2; exact one_2 wh nn v h hN hLn
  by_cases h3 : d = 3
  · subst h3; exact one_3 wh nn v h hN hLn
  by_cases h4 : d = 4
  · subst h4; exact one_4 wh nn v h hN hLn
  by_cases h5 : d = 5
  · subst h5; exact one_5 wh nn v h hN hLn
  by_cases h6 : d = 6
  · subst h6; exact one_6 wh nn v h hN hLn
  by_cases h7 : d = 7
  · subst h7; exact one_7 wh nn v h hN hLn
  by_cases h8 : d = 8
  · subst h8; exact one_8 wh nn v h hN hLn
  by_cases h9 : d = 9
  · subst h9; exact one_9 wh nn v h hN hLn
  by_cases h10 : d = 10
  · subst h10; exact one_10 wh nn v h hN hLn
  by_cases h11 : d = 11
  · subst h11; exact one_11 wh nn v h hN hLn
  exact one_other d wh nn v h (fun k h1 h2 e => by omega)
end V
end Go.Proofs.Ytmlhlmiigdddlaa
set_option linter.unusedVariables false
set_option linter.unusedSimpArgs false
namespace Go.Proofs.Ytmlhlmiigdddlaa
namespace V
/-- a step, as it lies -/
structure S4 where
  d : Int
  n : Int
  a : Int
  b : Int
def S4.arr (s : S4) : Array Value := #[.int .i64 s.d, .int .i64 s.n, .int .i64 s.a, .int .i64 s.b]
/-- a slice of steps that came in -/
def Ss4 (w : World) (a : Option Addr) (ss : List S4) : Prop := ss = [] ∨ ∃ b off, a = some ⟨b, off, none⟩ ∧ b < w.heap.size ∧ ∀ j (h : j < ss.length), ∀ r (hr : r < 4), w.cell? ⟨b, off + j * 4 + r, none⟩ = ss[j].arr[r]?
end V
namespace In4
open Go.ChangeShapes Go.WideShapes Go.ChangeAt Go.RowKit
theorem fields52 : ∃ f0 f1 f2 f3 : Field, Try.prog.underlying 52 = some (.struct #[f0, f1, f2, f3]) ∧ (f0.offset = 0 ∧ f1.offset = 1 ∧ f2.offset = 2 ∧ f3.offset = 3) ∧ (f0.type = 3 ∧ f1.type = 3 ∧ f2.type = 3 ∧ f3.type = 3) := ⟨_, _, _, _, Try.underlying52, ⟨rfl, rfl, rfl, rfl⟩, ⟨rfl, rfl, rfl, rfl⟩⟩
theorem cells3 : Try.prog.cellsOf 3 = 1 := by kernel_rfl
theorem cells52 : Try.prog.cellsOf 52 = 4 := by kernel_rfl
set_option maxRecDepth 100000 in
theorem dec52 {H : Type} {enc : TypeId × Value → H} {W : World} (base : Nat) (spare : Nat → Bool) (held : Bool) (n : Nat) (cs : List Value) (x : DataW H × List MemPlace) (hl : cs.length = 4) (h : DataW.trod enc Try.prog W base spare held n 52 cs = some x) : ∃ q : V.S4, cs = q.arr.toList := by
  obtain ⟨f0, f1, f2, f3, he, ⟨o0, o1, o2, o3⟩, ⟨t0, t1, t2, t3⟩⟩ := fields52
  obtain ⟨xs, k, hk, hxy, _, hxl, hff⟩ := DataW.trod_struct he h
  match xs, hxl, cs, hl with
  | [y0, y1, y2, y3], _, [v0, v1, v2, v3], _ =>
    have g0 := hff 0 f0 rfl
    have g1 := hff 1 f1 rfl
    have g2 := hff 2 f2 rfl
    have g3 := hff 3 f3 rfl
    simp [o0, o1, o2, o3, t0, t1, t2, t3, cells3] at g0 g1 g2 g3
    obtain ⟨n0, hv0, _, _⟩ := DataW.trod_int Try.underlying3 g0
    obtain ⟨n1, hv1, _, _⟩ := DataW.trod_int Try.underlying3 g1
    obtain ⟨n2, hv2, _, _⟩ := DataW.trod_int Try.underlying3 g2
    obtain ⟨n3, hv3, _, _⟩ := DataW.trod_int Try.underlying3 g3
    simp at hv0 hv1 hv2 hv3
    subst hv0 hv1 hv2 hv3
    exact ⟨⟨n0, n1, n2, n3⟩, rfl⟩
theorem bulk_pos {H : Type} (d : DataW H) : 1 ≤ Rows.uptoBulk d := by
  cases d with
  | lit l => cases l <;> simp [Rows.uptoBulk]
  | _ => simp [Rows.uptoBulk]
theorem bulk_len {H : Type} : ∀ ds : List (DataW H), ds.length ≤ Rows.uptoBulkAll ds := by
  intro ds
  induction ds with
  | nil => simp
  | cons a r ih => have := bulk_pos a; simp [Rows.uptoBulkAll]; omega
set_option maxRecDepth 100000 in
/-- a slice of steps that came in -/
theorem steps_in {H : Type} {enc : TypeId × Value → H} {W : World} {a : Option Addr} {len cap : Nat} {d : DataW H} {ps : List MemPlace} {base M : Nat} {spare : Nat → Bool} {held : Bool}
    (h : DataW.Trod enc Try.prog W base spare held 23 (.slice a len cap) d ps) (hb : Rows.uptoBulk d ≤ M) : ∃ ss : List V.S4, ss.length = len ∧ V.Ss4 W a ss ∧ ss.length ≤ M := by
  obtain ⟨fuel, hf⟩ := h
  rcases DataW.trod_slice Try.underlying23 hf with ⟨hcs, _⟩ | ⟨y, l, c, elems, rest, m, _, hcs, hx, hb', hl, hm, hel, hi, _, _⟩
  · simp [Value.cells] at hcs
    obtain ⟨rfl, rfl, rfl⟩ := hcs
    exact ⟨[], rfl, .inl rfl, by simp⟩
  · simp [Value.cells] at hcs
    obtain ⟨rfl, rfl, rfl⟩ := hcs
    by_cases hz : len = 0
    · subst hz
      exact ⟨[], rfl, .inl rfl, by simp⟩
    have each : ∀ i, i < len → ∃ q : V.S4, (∀ r, r < 4 → W.cell? ((y.add (i * 4)).add r) = q.arr[r]?) := by
      intro i hi'
      have hh := hi i hi'
      have hie : i < elems.length := by omega
      rw [List.getElem?_eq_getElem hie, Option.bind_eq_some_iff, cells52] at hh
      obtain ⟨cs', h1, h2⟩ := hh
      obtain ⟨_, hlen, hcell⟩ := World.cells?_some h1
      obtain ⟨q, rfl⟩ := dec52 _ _ _ _ cs' _ hlen h2
      refine ⟨q, fun r hr => ?_⟩
      have := hcell r hr
      rw [this]
      simp
    haveI : Inhabited V.S4 := ⟨⟨0, 0, 0, 0⟩⟩
    obtain ⟨op, hop⟩ := Go.Deep.choose_lt each
    have hc0 : W.cell? ((y.add (0 * 4)).add 0) = some (.int .i64 (op 0).d) := ((hop 0 (by omega)) 0 (by omega)).trans rfl
    obtain ⟨b, off, spot⟩ := y
    have hspot : spot = none := by simpa [Addr.add] using World.cell?_spot hc0
    subst hspot
    have hbl : b < W.heap.size := World.block_lt_of_cell? W _ (by simpa [Addr.add] using hc0)
    have hlen : len ≤ M := by
      have e1 : d = .slice (elems.map (·.1)) (rest.map (·.1)) := by simpa using congrArg Prod.fst hx
      rw [e1] at hb
      simp only [Rows.uptoBulk] at hb
      have := bulk_len (elems.map (·.1))
      rw [List.length_map] at this
      omega
    refine ⟨(List.range len).map op, by simp, .inr ⟨b, off, rfl, hbl, fun j hj r hr => ?_⟩, by simpa using hlen⟩
    · have hj' : j < len := by simpa using hj
      have := (hop j hj') r hr
      rw [Ins.add_off, Ins.add_off] at this
      rw [this]
      simp
end In4
end Go.Proofs.Ytmlhlmiigdddlaa
set_option linter.unusedVariables false
set_option linter.unusedSimpArgs false
namespace Go.Proofs.Ytmlhlmiigdddlaa
namespace V
/-- a start, as it lies -/
structure S3 where
  e : Int
  f : Int
  n : Int
def S3.arr (s : S3) : Array Value := #[.int .i64 s.e, .int .i64 s.f, .int .i64 s.n]
def Ss3 (w : World) (a : Option Addr) (ss : List S3) : Prop := ss = [] ∨ ∃ b off, a = some ⟨b, off, none⟩ ∧ b < w.heap.size ∧ ∀ j (h : j < ss.length), ∀ r (hr : r < 3), w.cell? ⟨b, off + j * 3 + r, none⟩ = ss[j].arr[r]?
end V
namespace In3
open Go.ChangeShapes Go.WideShapes Go.ChangeAt Go.RowKit
theorem fields46 : ∃ f0 f1 f2 : Field, Try.prog.underlying 46 = some (.struct #[f0, f1, f2]) ∧ (f0.offset = 0 ∧ f1.offset = 1 ∧ f2.offset = 2) ∧ (f0.type = 3 ∧ f1.type = 3 ∧ f2.type = 3) := ⟨_, _, _, Try.underlying46, ⟨rfl, rfl, rfl⟩, ⟨rfl, rfl, rfl⟩⟩
theorem cells46 : Try.prog.cellsOf 46 = 3 := by kernel_rfl
set_option maxRecDepth 100000 in
theorem dec46 {H : Type} {enc : TypeId × Value → H} {W : World} (base : Nat) (spare : Nat → Bool) (held : Bool) (n : Nat) (cs : List Value) (x : DataW H × List MemPlace) (hl : cs.length = 3) (h : DataW.trod enc Try.prog W base spare held n 46 cs = some x) : ∃ q : V.S3, cs = q.arr.toList := by
  obtain ⟨f0, f1, f2, he, ⟨o0, o1, o2⟩, ⟨t0, t1, t2⟩⟩ := fields46
  obtain ⟨xs, k, hk, hxy, _, hxl, hff⟩ := DataW.trod_struct he h
  match xs, hxl, cs, hl with
  | [y0, y1, y2], _, [v0, v1, v2], _ =>
    have g0 := hff 0 f0 rfl
    have g1 := hff 1 f1 rfl
    have g2 := hff 2 f2 rfl
    simp [o0, o1, o2, t0, t1, t2, In4.cells3] at g0 g1 g2
    obtain ⟨n0, hv0, _, _⟩ := DataW.trod_int Try.underlying3 g0
    obtain ⟨n1, hv1, _, _⟩ := DataW.trod_int Try.underlying3 g1
    obtain ⟨n2, hv2, _, _⟩ := DataW.trod_int Try.underlying3 g2
    simp at hv0 hv1 hv2
    subst hv0 hv1 hv2
    exact ⟨⟨n0, n1, n2⟩, rfl⟩
set_option maxRecDepth 100000 in
/-- a slice of starts that came in -/
theorem starts_in {H : Type} {enc : TypeId × Value → H} {W : World} {a : Option Addr} {len cap : Nat} {d : DataW H} {ps : List MemPlace} {base M : Nat} {spare : Nat → Bool} {held : Bool}
    (h : DataW.Trod enc Try.prog W base spare held 22 (.slice a len cap) d ps) (hb : Rows.uptoBulk d ≤ M) : ∃ ss : List V.S3, ss.length = len ∧ V.Ss3 W a ss ∧ ss.length ≤ M := by
  obtain ⟨fuel, hf⟩ := h
  rcases DataW.trod_slice Try.underlying22 hf with ⟨hcs, _⟩ | ⟨y, l, c, elems, rest, m, _, hcs, hx, hb', hl, hm, hel, hi, _, _⟩
  · simp [Value.cells] at hcs
    obtain ⟨rfl, rfl, rfl⟩ := hcs
    exact ⟨[], rfl, .inl rfl, by simp⟩
  · simp [Value.cells] at hcs
    obtain ⟨rfl, rfl, rfl⟩ := hcs
    by_cases hz : len = 0
    · subst hz
      exact ⟨[], rfl, .inl rfl, by simp⟩
    have each : ∀ i, i < len → ∃ q : V.S3, (∀ r, r < 3 → W.cell? ((y.add (i * 3)).add r) = q.arr[r]?) := by
      intro i hi'
      have hh := hi i hi'
      have hie : i < elems.length := by omega
      rw [List.getElem?_eq_getElem hie, Option.bind_eq_some_iff, cells46] at hh
      obtain ⟨cs', h1, h2⟩ := hh
      obtain ⟨_, hlen, hcell⟩ := World.cells?_some h1
      obtain ⟨q, rfl⟩ := dec46 _ _ _ _ cs' _ hlen h2
      refine ⟨q, fun r hr => ?_⟩
      have := hcell r hr
      rw [this]
      simp
    haveI : Inhabited V.S3 := ⟨⟨0, 0, 0⟩⟩
    obtain ⟨op, hop⟩ := Go.Deep.choose_lt each
    have hc0 : W.cell? ((y.add (0 * 3)).add 0) = some (.int .i64 (op 0).e) := ((hop 0 (by omega)) 0 (by omega)).trans rfl
    obtain ⟨b, off, spot⟩ := y
    have hspot : spot = none := by simpa [Addr.add] using World.cell?_spot hc0
    subst hspot
    have hbl : b < W.heap.size := World.block_lt_of_cell? W _ (by simpa [Addr.add] using hc0)
    have hlen : len ≤ M := by
      have e1 : d = .slice (elems.map (·.1)) (rest.map (·.1)) := by simpa using congrArg Prod.fst hx
      rw [e1] at hb
      simp only [Rows.uptoBulk] at hb
      have := In4.bulk_len (elems.map (·.1))
      rw [List.length_map] at this
      omega
    refine ⟨(List.range len).map op, by simp, .inr ⟨b, off, rfl, hbl, fun j hj r hr => ?_⟩, by simpa using hlen⟩
    · have hj' : j < len := by simpa using hj
      have := (hop j hj') r hr
      rw [Ins.add_off, Ins.add_off] at this
      rw [this]
      simp
end In3
end Go.Proofs.Ytmlhlmiigdddlaa
set_option linter.unusedVariables false
set_option linter.unusedSimpArgs false
namespace Go.Proofs.Ytmlhlmiigdddlaa
open Go.RowKit
namespace V
open M F
variable {w0 w w' : World} {Ln s x y N mm : Nat} {D R U : Nat → Prop} {ws ws' : List Int} {tr tr' : List Ac} {bad bad' : Nat} {S : List Sp} {X : List Xp} {G : List Gp} {r : Ro} {B : Nat}
instance (L : Nat) (a : Int) (n : Nat) : Decidable (wi L a n) := by unfold wi; infer_instance
/-- what New answers -/
def scd (L : Nat) (ep fi nn : Int) : Int := if ¬ (1 ≤ nn ∧ nn ≤ 16) then 3 else if ¬ (wi L ep 1 ∧ wi L fi nn.toNat) then 140 else if fi ≤ ep ∧ ep < fi + nn then 1 else 0
theorem scd_ok {L : Nat} {ep fi nn : Int} (h : scd L ep fi nn = 0) : ∃ e f n : Nat, ep = (e : Nat) ∧ fi = (f : Nat) ∧ nn = (n : Nat) ∧ (1 ≤ n ∧ n ≤ 16) ∧ e < L ∧ f + n ≤ L ∧ ¬ (f ≤ e ∧ e < f + n) := by
  unfold scd at h
  split at h
  · cases h
  · rename_i h1
    split at h
    · cases h
    · rename_i h2
      split at h
      · cases h
      · rename_i h3
        unfold wi at h2
        exact ⟨ep.toNat, fi.toNat, nn.toNat, by omega, by omega, by omega, by omega, by omega, by omega, by omega⟩
theorem pnew_no (ep fi nn : Int) (h : Mem D B x ws tr bad w) (hc : scd ws.length ep fi nn ≠ 0) : Calls Try.prog 10 #[.pointer (some ⟨x, 0, none⟩), .int .i64 ep, .int .i64 fi, .int .i64 nn] w fun e w' => e = .returned (.tuple #[.pointer none, .int .i64 (scd ws.length ep fi nn)]) ∧ w' = w := by
  by_cases h1 : 1 ≤ nn ∧ nn ≤ 16
  · obtain ⟨n, rfl⟩ : ∃ n : Nat, nn = (n : Int) := ⟨nn.toNat, by omega⟩
    by_cases h2 : wi ws.length ep 1 ∧ wi ws.length fi n
    · have h2' := h2
      unfold wi at h2'
      obtain ⟨e, rfl⟩ : ∃ e : Nat, ep = (e : Int) := ⟨ep.toNat, by omega⟩
      obtain ⟨f, rfl⟩ : ∃ f : Nat, fi = (f : Int) := ⟨fi.toNat, by omega⟩
      by_cases h3 : (f : Int) ≤ (e : Int) ∧ (e : Int) < (f : Int) + (n : Int)
      · have ec : scd ws.length (e : Nat) (f : Nat) (n : Nat) = 1 := by unfold scd; rw [if_neg (fun z => z h1), Int.toNat_natCast, if_neg (fun z => z h2), if_pos h3]
        rw [ec]
        exact snew_arg e f n h (by omega) (by omega) (by omega) (by omega)
      · exfalso
        exact hc (by unfold scd; rw [if_neg (fun z => z h1), Int.toNat_natCast, if_neg (fun z => z h2), if_neg h3])
    · have ec : scd ws.length ep fi (n : Nat) = 140 := by unfold scd; rw [if_neg (fun z => z h1), Int.toNat_natCast, if_pos h2]
      rw [ec]
      exact snew_out ep fi n h (by omega) h2
  · have ec : scd ws.length ep fi nn = 3 := by unfold scd; rw [if_pos h1]
    rw [ec]
    exact snew_range ep fi nn w x h1
theorem rnew_no (ep fi nn : Int) (h : Rem D B y ws mm tr bad w) (hc : scd ws.length ep fi nn ≠ 0) : Calls Try.prog 11 #[.pointer (some ⟨y, 0, none⟩), .int .i64 ep, .int .i64 fi, .int .i64 nn] w fun e w' => e = .returned (.tuple #[.pointer none, .int .i64 (scd ws.length ep fi nn)]) ∧ w' = w := by
  by_cases h1 : 1 ≤ nn ∧ nn ≤ 16
  · obtain ⟨n, rfl⟩ : ∃ n : Nat, nn = (n : Int) := ⟨nn.toNat, by omega⟩
    by_cases h2 : wi ws.length ep 1 ∧ wi ws.length fi n
    · have h2' := h2
      unfold wi at h2'
      obtain ⟨e, rfl⟩ : ∃ e : Nat, ep = (e : Int) := ⟨ep.toNat, by omega⟩
      obtain ⟨f, rfl⟩ : ∃ f : Nat, fi = (f : Int) := ⟨fi.toNat, by omega⟩
      by_cases h3 : (f : Int) ≤ (e : Int) ∧ (e : Int) < (f : Int) + (n : Int)
      · have ec : scd ws.length (e : Nat) (f : Nat) (n : Nat) = 1 := by unfold scd; rw [if_neg (fun z => z h1), Int.toNat_natCast, if_neg (fun z => z h2), if_pos h3]
        rw [ec]
        exact rsnew_arg e f n h (by omega) (by omega) (by omega) (by omega)
      · exfalso
        exact hc (by unfold scd; rw [if_neg (fun z => z h1), Int.toNat_natCast, if_neg (fun z => z h2), if_neg h3])
    · have ec : scd ws.length ep fi (n : Nat) = 140 := by unfold scd; rw [if_neg (fun z => z h1), Int.toNat_natCast, if_pos h2]
      rw [ec]
      exact rsnew_out ep fi n h (by omega) h2
  · have ec : scd ws.length ep fi nn = 3 := by unfold scd; rw [if_pos h1]
    rw [ec]
    exact rsnew_range ep fi nn w y h1
/-- New is through -/
theorem slots_fin {b c gg cap' gg2 cap2 e f n : Nat} {V4 w5 w6 : World} (bel : Below w0.heap.size w0 V4) (hP : Pr U w0.heap.size x y ws N tr bad V4) (hW : Ws w0.heap.size s x y r (rsOf S X G) (fmOf x y S X G) true V4) (hX : Sl b x e f n V4) (hY : RSl c y e f n V4) (hbX : w0.heap.size ≤ b) (hbY : w0.heap.size ≤ c) (hnX : ∀ (i : Nat) (q : Ob), (fmOf x y S X G 0)[i]? = some q → q.1 ≠ b) (hnY : ∀ (i : Nat) (q : Ob), (fmOf x y S X G 1)[i]? = some q → q.1 ≠ c)
    (hr5 : w5.ownsRow w0.heap.size 33 1 (.slice (some ⟨gg, 0, none⟩) (r.L 0 + 1) cap') (r.L 0 + 1) ((rsOf S X G 0).map ptr ++ [ptr b])) (t5 : Turn (At (r.ao 0)) V4 w5)
    (hr6 : w6.ownsRow w0.heap.size 47 1 (.slice (some ⟨gg2, 0, none⟩) (r.L 1 + 1) cap2) (r.L 1 + 1) ((rsOf S X G 1).map ptr ++ [ptr c])) (t6 : Turn (At (r.ao 1)) (w5.setCell ⟨s, 2, none⟩ (.slice (some ⟨gg, 0, none⟩) (r.L 0 + 1) cap')) w6)
    (h1 : ws.length = Ln) (h2 : tr.length ≤ N) (h3 : S.length ≤ N ∧ X.length ≤ N ∧ G.length ≤ N) (h4 : r.L 0 = S.length ∧ r.L 1 = S.length ∧ r.L 2 = X.length ∧ r.L 3 = X.length ∧ r.L 4 = G.length ∧ r.L 5 = G.length) (hRt : Rt Ln S X G N) (hok : (1 ≤ n ∧ n ≤ 16) ∧ e < Ln ∧ f + n ≤ Ln) :
    Wn w0 Ln s x y (N + 1) (w6.setCell ⟨s, 3, none⟩ (.slice (some ⟨gg2, 0, none⟩) (r.L 1 + 1) cap2)) := by
  obtain ⟨bel5, P5, W5, K5⟩ := grow1 0 bel hP hW hX hbX hnX hr5 t5
  have hY5 := K5 _ _ _ hY (by decide) (by decide)
  obtain ⟨bel6, P6, W6, _⟩ := grow1 1 bel5 P5 W5 hY5 hbY hnY hr6 t6
  refine ⟨bel6, U, ws, tr, bad, S ++ [⟨b, c, e, f, n⟩], X, G, _, pr_more P6, h1, by omega, by rw [List.length_append]; simp; omega, ?_, W6.congr (fun k => ?_) (fun k => ?_), ?_⟩
  · rw [List.length_append]
    obtain ⟨e0, e1, e2, e3, e4, e5⟩ := h4
    exact ⟨by show r.L 0 + 1 = _; rw [e0]; rfl, by show r.L 1 + 1 = _; rw [e1]; rfl, e2, e3, e4, e5⟩
  · rcases fin6 k with rfl | rfl | rfl | rfl | rfl | rfl
    · show S.map Sp.b ++ [b] = (S ++ [_]).map Sp.b; rw [List.map_append]; rfl
    · show S.map Sp.c ++ [c] = (S ++ [_]).map Sp.c; rw [List.map_append]; rfl
    · rfl
    · rfl
    · rfl
    · rfl
  · rcases fin6 k with rfl | rfl | rfl | rfl | rfl | rfl
    · show S.map _ ++ [_] = (S ++ [_]).map _; rw [List.map_append]; rfl
    · show S.map _ ++ [_] = (S ++ [_]).map _; rw [List.map_append]; rfl
    · rfl
    · rfl
    · rfl
    · rfl
  · have more : ∀ (q : Sp), (∃ j : Nat, S[j]? = some q) → ∃ j : Nat, (S ++ [(⟨b, c, e, f, n⟩ : Sp)])[j]? = some q := fun q ⟨j, hj⟩ => ⟨j, by rw [List.getElem?_append_left (List.getElem?_eq_some_iff.1 hj).1]; exact hj⟩
    refine ⟨fun j u hu => ?_, fun j u hu => ?_, fun j u hu => ?_⟩
    · rcases add_getO j u hu with ⟨_, rfl⟩ | ⟨_, hu'⟩
      · exact hok
      · exact hRt.hS j u hu'
    · obtain ⟨q1, q2, q3⟩ := hRt.more.hX j u hu
      exact ⟨q1, q2, more _ q3⟩
    · obtain ⟨q1, q2, q3⟩ := hRt.hG j u hu
      exact ⟨q1, q2, more _ q3⟩
theorem row_lower2 {B B' e size m : Nat} {v : Value} {xs : List Value} (h : w.ownsRow B e size v m xs) (hB : B' ≤ B) : w.ownsRow B' e size v m xs := by
  refine ⟨h.1, ?_⟩
  rcases h.2 with q | ⟨g, cap, cur, hv, hb, rest⟩
  · exact .inl q
  · exact .inr ⟨g, cap, cur, hv, Nat.le_trans hB hb, rest⟩
theorem rem_lower2 {B' m : Nat} (h : Rem D B x ws m tr bad w) (hB : B' ≤ B) : Rem D B' x ws m tr bad w := by
  obtain ⟨hb, few, lo, lc, lg, eo, ec, hm, hr, hl, hd⟩ := h
  exact ⟨hb, few, lo, lc, lg, eo, ec, ⟨hm.hx, row_lower2 hm.log hB, row_lower2 hm.row hB, Nat.le_trans hB hm.lx⟩, hr, hl, hd⟩
def r0 : Ro := ⟨fun _ => none, fun _ => 0, fun _ => 0⟩
/-- all that is made ahead of the starts -/
theorem Wn.start {n : Nat} {w2 w3 w4 : World} (h1 : Mem D w0.heap.size x (List.replicate n 0) [] 0 w2) (b1 : Below w0.heap.size w0 w2) (h2 : Rem R w2.heap.size y (List.replicate n 0) 0 [] 0 w3) (b2 : Below w2.heap.size w2 w3)
    (h4 : w4 = w3.alloc (.cells #[.pointer (some ⟨x, 0, none⟩), .pointer (some ⟨y, 0, none⟩), .slice none 0 0, .slice none 0 0, .slice none 0 0, .slice none 0 0, .slice none 0 0, .slice none 0 0, .bool true] 44)) : Wn w0 n w3.heap.size x y 0 w4 := by
  have s1 := b1.size
  have s2 := b2.size
  have t4 : Below w3.heap.size w3 w4 := by rw [h4]; exact (Below.refl _ _).alloc (Nat.le_refl _) _
  have hs := heap_alloc_new w3 (.cells #[.pointer (some ⟨x, 0, none⟩), .pointer (some ⟨y, 0, none⟩), .slice none 0 0, .slice none 0 0, .slice none 0 0, .slice none 0 0, .slice none 0 0, .slice none 0 0, .bool true] 44)
  rw [← h4] at hs
  have hm := (h1.below b2).below t4
  have hr := (rem_lower2 h2 s1).below t4
  refine ⟨(b1.trans (b2.mono s1)).trans (t4.mono (by omega)), fun j => D j ∨ R j, List.replicate n 0, [], 0, [], [], [], r0, ⟨D, R, hm, hr, fun j hj q => ?_, fun j => Iff.rfl⟩, by simp, Nat.le_refl _, ⟨Nat.le_refl _, Nat.le_refl _, Nat.le_refl _⟩, ⟨rfl, rfl, rfl, rfl, rfl, rfl⟩, ⟨hs, fun i => ?_, fun i => ?_, by omega⟩, ⟨fun i p hp => (by simp at hp), fun i p hp => (by simp at hp), fun i p hp => (by simp at hp)⟩⟩
  · have := (h1.lo hj).2
    have := (h2.low q).1
    omega
  · rcases fin6 i with rfl | rfl | rfl | rfl | rfl | rfl <;> exact World.ownsRow_nil _ _ _ _
  · have e : fmOf x y [] [] [] i = [] := by rcases fin6 i with rfl | rfl | rfl | rfl | rfl | rfl <;> rfl
    rw [e]
    exact ⟨fun j p hp => (by simp at hp), fun j k p q hp => (by simp at hp)⟩
/-- a start out of the list -/
theorem s3_cells {wx : World} {a : Option Addr} {ss : List S3} (h : Ss3 w a ss) (bl : Below w.heap.size w wx) {j : Nat} (hj : j < ss.length) : ∃ b off, a = some ⟨b, off, none⟩ ∧ (wx.cell? ⟨b, off + j * 3, none⟩ = some (.int .i64 ss[j].e) ∧ wx.cell? ⟨b, off + j * 3 + 1, none⟩ = some (.int .i64 ss[j].f) ∧ wx.cell? ⟨b, off + j * 3 + 2, none⟩ = some (.int .i64 ss[j].n)) := by
  rcases h with hI | ⟨b, off, rfl, hb, hc⟩
  · rw [hI] at hj; simp at hj
  · have key : ∀ r, r < 3 → wx.cell? ⟨b, off + j * 3 + r, none⟩ = ss[j].arr[r]? := fun r hr => (bl.cell (p := ⟨b, off + j * 3 + r, none⟩) hb).trans (hc j hj r hr)
    exact ⟨b, off, rfl, key 0 (by omega), key 1 (by omega), key 2 (by omega)⟩
theorem s4_cells {wx : World} {a : Option Addr} {ss : List S4} (h : Ss4 w a ss) (bl : Below w.heap.size w wx) {j : Nat} (hj : j < ss.length) : ∃ b off, a = some ⟨b, off, none⟩ ∧ (wx.cell? ⟨b, off + j * 4, none⟩ = some (.int .i64 ss[j].d) ∧ wx.cell? ⟨b, off + j * 4 + 1, none⟩ = some (.int .i64 ss[j].n) ∧ wx.cell? ⟨b, off + j * 4 + 2, none⟩ = some (.int .i64 ss[j].a) ∧ wx.cell? ⟨b, off + j * 4 + 3, none⟩ = some (.int .i64 ss[j].b)) := by
  rcases h with hI | ⟨b, off, rfl, hb, hc⟩
  · rw [hI] at hj; simp at hj
  · have key : ∀ r, r < 4 → wx.cell? ⟨b, off + j * 4 + r, none⟩ = ss[j].arr[r]? := fun r hr => (bl.cell (p := ⟨b, off + j * 4 + r, none⟩) hb).trans (hc j hj r hr)
    exact ⟨b, off, rfl, key 0 (by omega), key 1 (by omega), key 2 (by omega), key 3 (by omega)⟩
end V
end Go.Proofs.Ytmlhlmiigdddlaa
set_option linter.unusedVariables false
set_option linter.unusedSimpArgs false
namespace Go.Proofs.Ytmlhlmiigdddlaa
open Go.RowKit
namespace V
open M F
theorem modn (z : Int) (n : Nat) (h : 0 < n) : ∃ e : Nat, e < n ∧ z % (n : Int) = (e : Int) := by
  have h3 := Int.emod_nonneg z (b := (n : Int)) (by omega)
  have h4 := Int.emod_lt_of_pos z (b := (n : Int)) (by omega)
  exact ⟨(z % (n : Int)).toNat, by omega, by omega⟩
theorem w1p (m n : Nat) (h : n = m + 1) (hb : m < 2000000) : wrap64 (1 + (m : Int)) = (n : Int) := by subst h; unfold wrap64; omega
theorem wsucV (k : Nat) (h : k < 1999999999999) : wrap64 ((k : Int) + 1) = (k : Int) + 1 := by unfold wrap64; omega
theorem Wn.c8 {w0 w : World} {Ln s x y N : Nat} (h : Wn w0 Ln s x y N w) : w.cell? ⟨s, 8, none⟩ = some (.bool true) := by
  obtain ⟨bel, U, ws, tr, bad, S, X, G, r, hP, h1, h2, h3, h4, hW, hR⟩ := h
  exact hW.c8
/-- behind the script: both memories -/
def Em (w1 : World) (n x y : Nat) (w : World) : Prop := ∃ D R ws tr bad N, Mem D w1.heap.size x ws tr bad w ∧ Rem R w1.heap.size y ws N tr bad w ∧ ws.length = n ∧ N ≤ 2100000 ∧ Below w1.heap.size w1 w
theorem Em.below {w1 w w' : World} {n x y : Nat} (h : Em w1 n x y w) (b : Below w.heap.size w w') : Em w1 n x y w' := by
  obtain ⟨D, R, ws, tr, bad, N, h1, h2, h3, h4, h5⟩ := h
  exact ⟨D, R, ws, tr, bad, N, h1.below b, h2.below b, h3, h4, h5.trans (b.mono h5.size)⟩
set_option maxRecDepth 100000 in
set_option maxHeartbeats 8000000 in
theorem exact_walk (z1 : Int) (a : Option Addr) (acap : Nat) (ss : List S3) (b : Option Addr) (bcap : Nat) (os : List S4) (w : World) (hI : Ss3 w a ss) (hJ : Ss4 w b os) (hl : ss.length + os.length ≤ 1048576) :
    Calls Try.prog 3 #[.int .i64 z1, .slice a ss.length acap, .slice b os.length bcap] w fun e w' => e = .returned (.bool true) ∧ Below w.heap.size w w' := by
  obtain ⟨m0, hm0, e0⟩ := modn z1 60 (by omega)
  have HAw := hide' (A.awake_any w)
  have Hp1 := hide' (fun w => pick_big z1 60 w (by omega) (by omega))
  replace e0 : z1 % 60 = (m0 : Int) := e0
  rw [e0] at Hp1
  obtain ⟨n, hn⟩ : ∃ n, n = m0 + 1 := ⟨_, rfl⟩
  have HN := hide' (show 1 ≤ n ∧ n ≤ 60 by omega)
  have HNl := hide' (show n ≤ 65536 by omega)
  have WN := hide' (w1p m0 n hn (by omega))
  have HI := hide' hI
  have HJ := hide' hJ
  have HL := hide' hl
  have H10 := hide' (fun w => snew_nil 1 2 0 w)
  clear hI hJ hl e0 hn hm0
  go_enter Try.func3, Try.ntmps3
  go_wp2_with fail
  refine HAw.out.mono ?_
  rintro e w1 ⟨rfl, b1⟩
  have HB1 := hide' b1
  have H8 := hide' (M.new_any n w1 HN.out.1 HNl.out (n : Int) rfl)
  clear HAw b1
  go_wp2_with fail
  refine (Hp1.out w1).mono ?_
  rintro e wa ⟨rfl, hwa⟩
  replace hwa := hwa.symm
  subst hwa
  clear Hp1
  go_wp2_with fail
  rw [WN.out]
  refine H8.out.mono ?_
  rintro e w2 ⟨x, rfl, D2, m2, b2⟩
  have HM2 := hide' (And.intro m2 b2)
  have H9 := hide' (F.new_any n w2 HN.out.1 HNl.out (n : Int) rfl)
  clear H8 m2 b2 WN
  go_wp2_with fail
  refine H9.out.mono ?_
  rintro e w3 ⟨y, rfl, R3, m3, b3⟩
  have HM3 := hide' (And.intro m3 b3)
  clear H9 m3 b3
  go_wp2_with fail
  refine (H10.out w3).mono ?_
  rintro e wa ⟨rfl, hwa⟩
  replace hwa := hwa.symm
  subst hwa
  clear H10
  have S0 := hide' (fun w4 h4 => Wn.start (w4 := w4) HM2.out.1 HM2.out.2 HM3.out.1 HM3.out.2 h4)
  clear HM2 HM3
  go_upto_block 0 with fail
  replace S0 := hide' (S0.out _ rfl)
  generalize w3.alloc (.cells #[.pointer (some ⟨x, 0, none⟩), .pointer (some ⟨y, 0, none⟩), .slice none 0 0, .slice none 0 0, .slice none 0 0, .slice none 0 0, .slice none 0 0, .slice none 0 0, .bool true] 44) = W0 at *
  generalize w3.heap.size = s at *
  go_cut [16] (fun i wx => Wn w1 n s x y ss.length wx)
  case first =>
    go_wp2_with fail
    go_loopw [16] (fun i wx => ∃ k : Nat, k ≤ ss.length ∧ i = .int .i64 (k : Int) ∧ Wn w1 n s x y k wx) (fun i _ => ss.length - (intOf i).toNat)
    case atStart => exact ⟨0, by omega, rfl, S0.out⟩
    case round => as_aux_lemma =>
      clear S0
      obtain ⟨k, hk, rfl, hS⟩ := hrel
      have HS := hide' hS
      have c8 := hS.c8
      clear hS
      by_cases hlt : k < ss.length
      · obtain ⟨ab, off, rfl, d0, d1, d2⟩ := s3_cells HI.out (HB1.out.trans (HS.out.1.mono HB1.out.size)) hlt
        have hlt' : (k : Int) < (ss.length : Int) := by omega
        have Hwk := hide' (wsucV k (by have := HL.out; omega))
        have Hk := hide' (show k < 1999990 by have := HL.out; omega)
        generalize (ss[k]).e = ep at *
        generalize (ss[k]).f = fi at *
        generalize (ss[k]).n = nn at *
        have hB0 : Below wr.heap.size wr (wr.alloc (.cells #[.int .i64 ep, .int .i64 fi, .int .i64 nn] 46)) := (Below.refl _ _).alloc (Nat.le_refl _) _
        have hb0 := heap_alloc_new wr (.cells #[.int .i64 ep, .int .i64 fi, .int .i64 nn] 46)
        have q0 : (wr.alloc (.cells #[.int .i64 ep, .int .i64 fi, .int .i64 nn] 46)).cell? ⟨wr.heap.size, 0, none⟩ = some (.int .i64 ep) := by rw [Lib.cell_of_heap hb0]; rfl
        have q1 : (wr.alloc (.cells #[.int .i64 ep, .int .i64 fi, .int .i64 nn] 46)).cell? ⟨wr.heap.size, 1, none⟩ = some (.int .i64 fi) := by rw [Lib.cell_of_heap hb0]; rfl
        have q2 : (wr.alloc (.cells #[.int .i64 ep, .int .i64 fi, .int .i64 nn] 46)).cell? ⟨wr.heap.size, 2, none⟩ = some (.int .i64 nn) := by rw [Lib.cell_of_heap hb0]; rfl
        have HS1 := hide' (HS.out.same hB0)
        have HBB := hide' hb0
        go_upto_region 13 with fail
        clear d0 d1 d2 c8 hB0 hb0 HS
        generalize wr.alloc (.cells #[.int .i64 ep, .int .i64 fi, .int .i64 nn] 46) = V1 at *
        generalize wr.heap.size = β at *
        obtain ⟨bel, U, ws, tr, bad, S, X, G, r, hP, h1, h2, h3, h4, hW, hRt⟩ := HS1.out
        obtain ⟨D, R, hM, hR, hdis, hU⟩ := hP
        by_cases hc : scd n ep fi nn = 0
        · obtain ⟨e, f, m, rfl, rfl, rfl, hm, he, hf, hne⟩ := scd_ok hc
          have HOK := hide' (show (1 ≤ m ∧ m ≤ 16) ∧ e < n ∧ f + m ≤ n from ⟨hm, he, hf⟩)
          have HC := hide' ((snew_ok e f m hM hm (by omega) (by omega) hne).mono fun E V' ⟨z1, z2⟩ => (And.intro z1 (hide' z2)))
          have HP := hide' (And.intro hdis (And.intro h1 (And.intro h2 (And.intro h3 (And.intro h4 (And.intro hRt (And.intro bel (And.intro hM (And.intro hR (And.intro hW hne))))))))))
          have ltb : β < V1.heap.size := lt_of_heap HBB.out
          clear bel hM hR hdis hU h1 h2 h3 h4 hW hRt hc hm he hf hne
          go_wp2_with fail
          refine HC.out.mono ?_
          rintro E1 V2 ⟨rfl, hV2⟩
          have t2 : Below V1.heap.size V1 V2 := by rw [hV2.out]; exact (Below.refl _ _).alloc (Nat.le_refl _) _
          have hx2 : Sl V1.heap.size x e f m V2 := by rw [hV2.out]; exact snew_sl x e f m V1
          have g0 := (World.cell?_of_block (w := V1) (t2.block β ltb)).trans q0
          have g1 := (World.cell?_of_block (w := V1) (t2.block β ltb)).trans q1
          have g2 := (World.cell?_of_block (w := V1) (t2.block β ltb)).trans q2
          have HR2 := hide' (HP.out.2.2.2.2.2.2.2.2.1.below t2)
          have HC2 := hide' ((rsnew_ok e f m HR2.out HOK.out.1 (by have := HOK.out; have := HP.out.2.1; omega) (by have := HOK.out; have := HP.out.2.1; omega) HP.out.2.2.2.2.2.2.2.2.2.2).mono fun E V' ⟨z1, z2⟩ => (And.intro z1 (hide' z2)))
          obtain ⟨bX, hbX⟩ : ∃ bX, V1.heap.size = bX := ⟨_, rfl⟩
          have HbX := hide' hbX
          rw [hbX] at hx2 ⊢
          have HX2 := hide' (And.intro t2 hx2)
          clear HC t2 hx2 hV2 hbX ltb
          go_wp2_with fail
          refine HC2.out.mono ?_
          rintro E1 V3 ⟨rfl, hV3⟩
          have t3 : Below V2.heap.size V2 V3 := by rw [hV3.out]; exact (Below.refl _ _).alloc (Nat.le_refl _) _
          have hy3 : RSl V2.heap.size y e f m V3 := by rw [hV3.out]; exact heap_alloc_new _ _
          have W2 := HP.out.2.2.2.2.2.2.2.2.2.1.below HX2.out.1
          have W3 := W2.below t3
          have bl2 := HP.out.2.2.2.2.2.2.1.trans (HX2.out.1.mono HP.out.2.2.2.2.2.2.1.size)
          have bl3 := bl2.trans (t3.mono bl2.size)
          have P3 : Pr (fun j => D j ∨ R j) w1.heap.size x y ws k tr bad V3 := ⟨D, R, (HP.out.2.2.2.2.2.2.2.1.below HX2.out.1).below t3, HR2.out.below t3, HP.out.1, fun j => Iff.rfl⟩
          have hx3 : Sl bX x e f m V3 := HX2.out.2.below t3
          have c8 := W3.c8
          have f8 := W3.fz 8
          have HV4 : Hid (∀ V4, V4 = V3.setCell ⟨s, 8, none⟩ (.bool true) → Below w1.heap.size w1 V4 ∧ Pr (fun j => D j ∨ R j) w1.heap.size x y ws k tr bad V4 ∧ Ws w1.heap.size s x y r (rsOf S X G) (fmOf x y S X G) true V4 ∧ Sl bX x e f m V4 ∧ RSl V2.heap.size y e f m V4) := hide' (fun V4 h4 => by
            subst h4
            exact ⟨bel_flag bl3 W3.ls _ 8, Pr.flagged P3 W3 true, W3.flag true, hx3.kept (turn_b s 8 _ V3) (fun e => cells_ne hx3 W3.hs (by decide) e), hy3.kept (turn_b s 8 _ V3) (fun e => cells_ne hy3 W3.hs (by decide) e)⟩)
          have HNX : Hid (w1.heap.size ≤ bX ∧ w1.heap.size ≤ V2.heap.size ∧ (∀ (i : Nat) (q : Ob), (fmOf x y S X G 0)[i]? = some q → q.1 ≠ bX) ∧ (∀ (i : Nat) (q : Ob), (fmOf x y S X G 1)[i]? = some q → q.1 ≠ V2.heap.size)) := hide' (by
            have z1 := HP.out.2.2.2.2.2.2.1.size
            rw [HbX.out] at z1
            exact ⟨z1, bl2.size, fresh HP.out.2.2.2.2.2.2.2.2.2.1 0 (by rw [HbX.out]; exact Nat.le_refl _), fresh W2 1 (Nat.le_refl _)⟩)
          generalize V2.heap.size = bY at *
          clear HC2 g0 g1 g2 q0 q1 q2 t3 hy3 W2 W3 bl2 bl3 P3 hx3 HX2 hV3 HBB HS1 HR2
          go_upto_region 16 with fail
          clear c8 f8
          obtain ⟨V4, hV4⟩ : ∃ V4, V4 = V3.setCell ⟨s, 8, none⟩ (.bool true) := ⟨_, rfl⟩
          have HX4 := hide' (HV4.out V4 hV4)
          rw [← hV4]
          clear hV4 HV4
          have c2 := HX4.out.2.2.1.c2
          have HRw : Hid (V4.ownsRow w1.heap.size 33 1 (.slice (r.ao 0) (r.L 0) (r.cap 0)) (r.L 0) ((rsOf S X G 0).map ptr)) := hide' (HX4.out.2.2.1.row 0)
          have HB9 := hide' (HX4.out.1.size)
          have HLX := hide' (show r.L 0 < 3000000000000 by have := HP.out.2.2.2.2.1.1; have := HP.out.2.2.2.1; have := Hk.out; omega)
          have HLY := hide' (show r.L 1 < 3000000000000 by have := HP.out.2.2.2.2.1.2.1; have := HP.out.2.2.2.1; have := Hk.out; omega)
          have nws : Hid (¬ At (r.ao 0) s) := hide' (fun q => by obtain ⟨_, _, cs', h'⟩ := row_atk (HX4.out.2.2.1.row 0) q; exact cells_ne HX4.out.2.2.1.hs h' (by decide) rfl)
          go_upto_region 18 with (at_builtin; refine wpList_more (e := 33) (m := 1) Try.underlying37 info33 rfl (by decide) (by decide) V4 rfl _ _ rfl HRw.out HLX.out HB9.out [.pointer (some ⟨bX, 0, none⟩)] rfl (by simp [Value.oneCell']) _ rfl rfl ?_; intro gg cap' w5 hr5 t5 hg5; have a0 := (t5.cell (p := ⟨s, 2, none⟩) (lt_of_heap HX4.out.2.2.1.hs) nws.out).trans c2; have a1 : w5.frozen? ⟨s, 2, none⟩ = false := Lib.frozen_of_heap ((t5.block s (lt_of_heap HX4.out.2.2.1.hs) nws.out).trans HX4.out.2.2.1.hs) 2)
          obtain ⟨V5, hV5⟩ : ∃ V5, V5 = w5.setCell ⟨s, 2, none⟩ (.slice (some ⟨gg, 0, none⟩) (r.L 0 + 1) cap') := ⟨_, rfl⟩
          have G5 := grow1 0 HX4.out.1 HX4.out.2.1 HX4.out.2.2.1 HX4.out.2.2.2.1 HNX.out.1 HNX.out.2.2.1 hr5 t5
          have W5 : Ws w1.heap.size s x y (r.more 0 gg cap') (upd (rsOf S X G) 0 (rsOf S X G 0 ++ [bX])) (upd (fmOf x y S X G) 0 (fmOf x y S X G 0 ++ [(bX, slc x e f m)])) true V5 := by rw [hV5]; exact G5.2.2.1
          have bl5 : Below w1.heap.size w1 V5 := by rw [hV5]; exact G5.1
          rw [← hV5]
          have c3 : V5.cell? ⟨s, 3, none⟩ = some (.slice (r.ao 1) (r.L 1) (r.cap 1)) := W5.c3
          have HRw5 : Hid (V5.ownsRow w1.heap.size 47 1 (.slice (r.ao 1) (r.L 1) (r.cap 1)) (r.L 1) ((rsOf S X G 1).map ptr)) := hide' (W5.row 1)
          have nws5 : Hid (¬ At (r.ao 1) s) := hide' (fun q => by obtain ⟨_, _, cs', h'⟩ := row_atk (W5.row 1) q; exact cells_ne W5.hs h' (by decide) rfl)
          have HB5 := hide' bl5.size
          have HW5 := hide' (And.intro W5 hV5)
          have HT5 := hide' (And.intro hr5 t5)
          clear a0 a1 c2 hr5 t5 hg5 W5 hV5 bl5 G5 HRw HB9 nws
          go_wp2_with (at_builtin; refine wpList_more (e := 47) (m := 1) Try.underlying38 info47 rfl (by decide) (by decide) V5 rfl _ _ rfl HRw5.out HLY.out HB5.out [.pointer (some ⟨bY, 0, none⟩)] rfl (by simp [Value.oneCell']) _ rfl rfl ?_; intro gg2 cap2 w6 hr6 t6 hg6; have a0 := (t6.cell (p := ⟨s, 3, none⟩) (lt_of_heap HW5.out.1.hs) nws5.out).trans c3; have a1 : w6.frozen? ⟨s, 3, none⟩ = false := Lib.frozen_of_heap ((t6.block s (lt_of_heap HW5.out.1.hs) nws5.out).trans HW5.out.1.hs) 3)
          have FF := hide' (slots_fin HX4.out.1 HX4.out.2.1 HX4.out.2.2.1 HX4.out.2.2.2.1 HX4.out.2.2.2.2 HNX.out.1 HNX.out.2.1 HNX.out.2.2.1 HNX.out.2.2.2 HT5.out.1 HT5.out.2 hr6 (by rw [← HW5.out.2]; exact t6) HP.out.2.1 HP.out.2.2.1 HP.out.2.2.2.1 HP.out.2.2.2.2.1 HP.out.2.2.2.2.2.1 HOK.out)
          exact ⟨⟨k + 1, hlt, by rw [Hwk.out]; go_num, FF.out⟩, msr' hlt _ Hwk.out⟩
        · have HC := hide' (pnew_no ep fi nn hM (by rw [h1]; exact hc))
          have HC2 := hide' (rnew_no ep fi nn hR (by rw [h1]; exact hc))
          rw [h1] at HC HC2
          have FF := hide' (Wn.flagT (HS1.out.mono))
          have c8 := hW.c8
          have f8 := hW.fz 8
          generalize scd n ep fi nn = cd at *
          clear bel hM hR hdis hU h1 h2 h3 h4 hW hRt hc HS1 HBB
          go_wp2_with fail
          refine HC.out.mono ?_
          rintro E1 V2 ⟨rfl, hV2⟩
          replace hV2 := hV2.symm
          subst hV2
          clear HC
          go_wp2_with fail
          refine HC2.out.mono ?_
          rintro E1 V2 ⟨rfl, hV2⟩
          replace hV2 := hV2.symm
          subst hV2
          clear HC2 q0 q1 q2
          go_wp2
          exact ⟨⟨k + 1, hlt, by rw [Hwk.out]; go_num, by first | exact FF.out | simpa using FF.out⟩, msr' hlt _ Hwk.out⟩
      · obtain rfl : k = ss.length := by omega
        have hlt' : ¬ ((ss.length : Int) < (ss.length : Int)) := by omega
        go_wp2
        go_meet
        exact HS.out
  case rest =>
    clear S0
    have S2 := hide' hcut
    clear hcut
    go_upto_block 2 with fail
    go_cut [22] (fun i wx => Wn w1 n s x y (ss.length + os.length) wx)
    case first =>
      go_wp2_with fail
      go_loopw [22] (fun i wx => ∃ k : Nat, k ≤ os.length ∧ i = .int .i64 (k : Int) ∧ Wn w1 n s x y (ss.length + k) wx) (fun i _ => os.length - (intOf i).toNat)
      case atStart => exact ⟨0, by omega, rfl, S2.out⟩
      case round => as_aux_lemma =>
        clear S2
        obtain ⟨k, hk, rfl, hS⟩ := hrel
        have HS := hide' hS
        have c8 := hS.c8
        clear hS
        by_cases hlt : k < os.length
        · obtain ⟨ab, off, rfl, d0, d1, d2, d3⟩ := s4_cells HJ.out (HB1.out.trans (HS.out.1.mono HB1.out.size)) hlt
          have hlt' : (k : Int) < (os.length : Int) := by omega
          have Hwk := hide' (wsucV k (by have := HL.out; omega))
          have HC := hide' (one_all (os[k]).d (os[k]).n (os[k]).a (os[k]).b HS.out (by have := HL.out; omega) HN.out.2)
          generalize (os[k]).d = vd at *
          generalize (os[k]).n = vn at *
          generalize (os[k]).a = va at *
          generalize (os[k]).b = vb at *
          go_wp2_with fail
          refine HC.out.mono ?_
          rintro E1 V2 ⟨rfl, h2⟩
          have FF := hide' h2
          clear HC h2 d0 d1 d2 d3 c8
          go_wp2
          exact ⟨⟨k + 1, hlt, by rw [Hwk.out]; go_num, FF.out⟩, msr' hlt _ Hwk.out⟩
        · obtain rfl : k = os.length := by omega
          have hlt' : ¬ ((os.length : Int) < (os.length : Int)) := by omega
          go_wp2
          go_meet
          exact HS.out
    case rest =>
      clear S2
      have c8 := hcut.c8
      obtain ⟨bel, U, ws, tr, bad, S, X, G, r, hP, h1, h2, h3, h4, hW, hRt⟩ := hcut
      obtain ⟨D, R, hM, hR, hdis, hU⟩ := hP
      have HT := hide' (M.trace_any hM (by have := HL.out; omega))
      have HR := hide' (And.intro hR (And.intro bel (And.intro (show tr.length < 2000000000000 by have := HL.out; omega) (And.intro hM (And.intro h1 (show ss.length + os.length ≤ 2100000 by have := HL.out; omega))))))
      clear bel hM hR hdis hU h1 h2 h3 h4 hW hRt
      go_wp2_with fail
      refine HT.out.mono ?_
      rintro E1 wf ⟨ro, rc, rfl, hr1, bf⟩
      have HR2 := hide' (F.trace_any (HR.out.1.below bf))
      have HA := hide' (And.intro (acs_row hr1) bf)
      clear HT hr1 bf
      go_wp2_with fail
      refine HR2.out.mono ?_
      rintro E1 wg ⟨ro2, rc2, rfl, hr2, hwg⟩
      replace hwg := hwg.symm
      subst hwg
      have HE := hide' (entries_eq tr ro ro2 rc rc2 wf HA.out.1 (acs_row hr2) HR.out.2.2.1)
      clear HR2 hr2
      go_wp2_with fail
      refine HE.out.mono ?_
      rintro E1 wh ⟨rfl, nn, hwh⟩
      have HEm : Hid (Mem D w1.heap.size x ws tr bad wh ∧ Rem R w1.heap.size y ws (ss.length + os.length) tr bad wh ∧ Em w1 n x y wh) := hide' (by
        have q1 := (HR.out.2.2.2.1.below HA.out.2).drewN nn
        have q2 := (HR.out.1.below HA.out.2).drewN nn
        rw [← hwh] at q1 q2
        refine ⟨q1, q2, D, R, ws, tr, bad, _, q1, q2, HR.out.2.2.2.2.1, HR.out.2.2.2.2.2, ?_⟩
        rw [hwh]
        exact (HR.out.2.1.trans (HA.out.2.mono HR.out.2.1.size)).trans ⟨rfl, rfl, rfl, Nat.le_refl _, fun _ _ => rfl⟩)
      have HB3 := hide' (M.bad_any HEm.out.1)
      have HB4 := hide' (F.bad_any HEm.out.2.1)
      have HEE := hide' HEm.out.2.2
      clear HE hwh HA HR HEm
      go_wp2_with fail
      refine HB3.out.mono ?_
      rintro E1 wi ⟨rfl, hwi⟩
      replace hwi := hwi.symm
      subst hwi
      go_wp2_with fail
      refine HB4.out.mono ?_
      rintro E1 wj ⟨rfl, hwj⟩
      replace hwj := hwj.symm
      subst hwj
      clear HB3 HB4 c8
      go_wp2_with fail
      go_loopw [7, 23] (fun b i wx => ∃ k : Nat, k ≤ n ∧ b = .bool true ∧ i = .int .i64 (k : Int) ∧ Em w1 n x y wx) (fun _ i _ => n - (intOf i).toNat)
      case atStart => exact ⟨0, by omega, by simp, rfl, HEE.out⟩
      case round => as_aux_lemma =>
        clear HEE
        obtain ⟨k, hk, rfl, rfl, hS⟩ := hrel
        have HS := hide' hS
        clear hS
        by_cases hlt : k < n
        · have hlt' : (k : Int) < (n : Int) := by omega
          have Hwk := hide' (wsucV k (by have := HN.out; omega))
          obtain ⟨D1, R1, ws1, tr1, bad1, N1, h1, h2, h3, h4, h5⟩ := HS.out
          have HC := hide' (word_one (a := k) h1 (by omega))
          have HC2 : Hid (∀ V, Below wr.heap.size wr V → Calls Try.prog 19 #[.pointer (some ⟨y, 0, none⟩), .int .i64 (k : Nat)] V.drew fun e V' => e = .returned (.int .i64 (ws1.getD k 0)) ∧ Below V.heap.size V V') := hide' (fun V hb => (rword_any (a := k) (Rem.drew (h2.below hb)) (by omega) (by omega)).mono fun e V' ⟨z1, z2⟩ => ⟨z1, ⟨z2.os, z2.tape, z2.output, z2.size, z2.block⟩⟩)
          generalize ws1.getD k 0 = vv at *
          clear h1 h2 h3 h4 h5
          go_wp2_with fail
          refine HC.out.mono ?_
          rintro E1 V2 ⟨g, rc3, rfl, cg, b2⟩
          have HC3 := hide' (HC2.out V2 b2)
          have HE2 := hide' (HS.out.below b2)
          have ltg := World.block_lt_of_cell? V2 _ cg
          clear HC HC2 b2 HS
          go_wp2_with fail
          go_region_held3 (fun w' => w'.cell? ⟨g, 0, none⟩ = some (.int .i64 vv)) (first | exact cg | exact k3) ((go_at_call 19; refine HC3.out.mono ?_; rintro E1 V3 ⟨rfl, b3⟩; have k3 := (World.cell?_of_block (w := V2) (b3.block g ltg)).trans cg))
          rename_i hHeld
          clear hHeld
          have FF := hide' (HE2.out.below b3)
          clear HC3 HE2 k3 b3 cg ltg
          go_wp2
          exact ⟨⟨k + 1, hlt, by simp, by rw [Hwk.out]; go_num, FF.out⟩, msr' hlt _ Hwk.out⟩
        · obtain rfl : k = n := by omega
          have hlt' : ¬ ((k : Int) < (k : Int)) := by omega
          obtain ⟨D1, R1, ws1, tr1, bad1, N1, h1, h2, h3, h4, h5⟩ := HS.out
          have FF := hide' (HB1.out.trans (h5.mono HB1.out.size))
          clear HS h1 h2 h3 h4 h5
          go_wp2
          go_ret
          exact ⟨rfl, FF.out⟩
end V
end Go.Proofs.Ytmlhlmiigdddlaa
set_option linter.unusedVariables false
set_option linter.unusedSimpArgs false
namespace Go.Proofs.Ytmlhlmiigdddlaa
namespace epochExact
open Go.ChangeShapes Go.WideShapes Go.ChangeAt Go.RowKit Go.Deep
set_option maxRecDepth 100000 in
theorem contract (H : Type) (enc : TypeId × Value → H) (W : World) (base : Nat) (args : Array Value) (ds gs : List (DataW H)) (before : List MemPlace)
    (hval : ∀ (j : Nat) t v, Try.f3.params[j]? = some t → args[j]? = some v → Value.okWide Try.prog W .any base t v)
    (hW : DataW.Whole enc Try.prog Try.f3.params.toList Rows.epochExactSpec.vars false W args.toList ds gs before) (hk : Rows.uptoSmall H (ds ++ gs) = true) :
    Calls Try.prog 3 args W fun e W' => ∃ v, e = .returned v ∧ Rows.epochExactSpec.post enc Try.prog Try.f3 false true false false W args v W' := by
  have hW' := hW
  obtain ⟨p, q, hA0, hV, rfl, hfz, hnd⟩ := hW
  have hA : DataW.TrodAll enc Try.prog W 0 (fun _ => true) true Try.f3.params.toList args.toList ds p := hA0
  rw [Try.params3] at hA hval
  obtain ⟨v0, vs0, d0, ds0, p0, q0, hargs, rfl, rfl, h0, r0⟩ := trodAll_cons hA
  obtain ⟨v1, vs1, d1, ds1, p1, q1, rfl, rfl, rfl, h1, r1⟩ := trodAll_cons r0
  obtain ⟨v2, vs2, d2, ds2, p2, q2, rfl, rfl, rfl, h2, r2⟩ := trodAll_cons r1
  obtain ⟨rfl, rfl, rfl⟩ := trodAll_nil r2
  obtain rfl : args = #[v0, v1, v2] := by cases args; simp_all
  obtain ⟨rfl, rfl⟩ := trodVars_none hV
  simp only [List.append_nil] at hk
  have hb : Rows.uptoBulk d0 + Rows.uptoBulk d1 + Rows.uptoBulk d2 ≤ 1048576 := by
    have hb : Rows.uptoBulkAll [d0, d1, d2] ≤ 1048576 := of_decide_eq_true hk
    simp only [Rows.uptoBulkAll] at hb
    omega
  obtain ⟨x0, rfl, rfl, rfl, w0⟩ := open_int Try.underlying3 (hval 0 3 v0 rfl rfl) h0
  have k1 := h1
  have lt1 : ∀ x ∈ p1, x.block < W.heap.size := by obtain ⟨m, hm⟩ := k1; exact DataW.trod_lt m _ _ _ hm
  obtain ⟨a1, len1, cap1, rfl⟩ := okWide_slice Try.underlying22 (hval 1 22 v1 rfl rfl)
  obtain ⟨ns1, rfl, hI1, hs1⟩ := In3.starts_in h1 (Nat.le_refl _)
  have k2 := h2
  have lt2 : ∀ x ∈ p2, x.block < W.heap.size := by obtain ⟨m, hm⟩ := k2; exact DataW.trod_lt m _ _ _ hm
  obtain ⟨a2, len2, cap2, rfl⟩ := okWide_slice Try.underlying23 (hval 2 23 v2 rfl rfl)
  obtain ⟨ns2, rfl, hI2, hs2⟩ := In4.steps_in h2 (Nat.le_refl _)
  clear hA0
  refine (V.exact_walk x0 a1 cap1 ns1 a2 cap2 ns2 W hI1 hI2 (by omega)).mono fun e W' ⟨he, bel⟩ => ?_
  subst he
  exact ⟨_, rfl, _, _, _, [], _, [], hW', trodAll_mk1 (shut_bool Try.underlying4 _), (trodAll_cons_mk (shut_int Try.underlying3 w0) (trodAll_cons_mk (Below.trod laidOut (by kernel_rfl) (of_decide_eq_true (by kernel_rfl)) k1 bel lt1) (trodAll_cons_mk (Below.trod laidOut (by kernel_rfl) (of_decide_eq_true (by kernel_rfl)) k2 bel lt2) trodAll_mk0))), rfl, bel.frame _, fun h => by cases h⟩

set_option maxRecDepth 100000 in
theorem lifted (os : Os) (started : os.Started) (H : Type) (enc : TypeId × Value → H) (F : Stop.Interp) :
    ReturnsInHanded {} Try.checked os 3 .any ((Rows.OpenSpec.upto Rows.epochExactSpec).pre6 enc Try.prog Try.f3 Rows.epochExactUptoRow.domain false) (((Rows.OpenSpec.upto Rows.epochExactSpec).at F).post enc Try.prog Try.f3 false true false false) := by
  refine returnsInHanded_of_cond (C := Try.checked) (s := Rows.OpenSpec.upto Rows.epochExactSpec) (k := Rows.uptoSmall) rfl own started (by kernel_rfl) Try.func3
    (OpenSpec.witness (enc := enc) (C := Try.checked) (s := Rows.OpenSpec.upto Rows.epochExactSpec) (k := Rows.uptoSmall) rfl false ⟨#[], #[.int .i64 0, .slice none 0 0, .slice none 0 0], []⟩ 8 (by kernel_rfl) (by kernel_rfl) (by kernel_rfl)
      (x := ([.lit (.int .i64 0), .nil, .nil], [], [])) (by kernel_rfl) rfl (by kernel_rfl)) ?_
  intro W base args ds gs before hval hW _ hk _
  exact contract H enc W base args ds gs before hval hW hk

theorem over : Rows.EpochExactUptoSaid :=
  OpenClaim.holds_of_cond 3 Try.f3 rfl rfl rfl rfl rfl rfl rfl ⟨rfl, rfl, rfl, rfl, rfl⟩ rfl rfl rfl rfl rfl (by kernel_rfl) Try.func3 (by kernel_rfl)
    (of_decide_eq_true (by kernel_rfl)) (by unfold Func.isWrapper; first | (rw [if_pos (by decide +kernel)]; kernel_rfl) | (rw [if_neg (by decide +kernel)]; exact ⟨rfl, rfl⟩))
    (fun os started H enc _ F => lifted os started H enc F)
end epochExact

theorem epochExact_holds : Rows.EpochExactUptoSaid := epochExact.over
#print axioms epochExact_holds
end Go.Proofs.Ytmlhlmiigdddlaa
