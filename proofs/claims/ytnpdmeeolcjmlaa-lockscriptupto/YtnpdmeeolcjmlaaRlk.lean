import Derived.Test.YtnpdmeeolcjmlaaLcn
import Derived.Test.YtnpdmeeolcjmlaaRfB
import Derived.Test.YtnpdmeeolcjmlaaPrs
set_option linter.unusedVariables false
set_option linter.unusedSimpArgs false
namespace Go.Proofs.Ytnpdmeeolcjmlaa
open Go.RowKit
namespace F
open M
variable {D : Nat → Prop} {B y m : Nat} {ws : List Int} {tr : List Ac} {bad : Nat} {w w' : World}
theorem Rem.kind (h : Rem D B y ws m tr bad w) {j : Nat} (hj : D j) : ∃ cs t, w.heap[j]? = some (.cells cs t (0, 0)) ∧ (t = 77 ∨ t = 100 ∨ t = 83) := by
  obtain ⟨hb, few, lo, lc, lg, eo, ec, hm, hr, hl, hd⟩ := h
  rcases (hd j).1 hj with rfl | q | q
  · exact ⟨_, _, hm.hx, .inl rfl⟩
  · obtain ⟨_, _, cs, h3⟩ := row_at hm.log q
    exact ⟨cs, _, h3, .inr (.inl rfl)⟩
  · obtain ⟨_, _, cs, h3⟩ := row_at hm.row q
    exact ⟨cs, _, h3, .inr (.inr rfl)⟩
theorem Rem.not (h : Rem D B y ws m tr bad w) {j : Nat} {cs : Array Value} {t : TypeId} {r : Nat × Nat} (ho : w.heap[j]? = some (.cells cs t r)) (hk : t ≠ 77 ∧ t ≠ 100 ∧ t ≠ 83) : ¬ D j := by
  intro hj
  obtain ⟨cs', t', h1, h2⟩ := h.kind hj
  rw [ho] at h1
  cases h1
  rcases h2 with q | q | q
  · exact hk.1 q
  · exact hk.2.1 q
  · exact hk.2.2 q
theorem RTo.drew (t : RTo D B y ws m tr bad w.drew w') : RTo D B y ws m tr bad w w' := by
  obtain ⟨D', h, t, s⟩ := t
  exact ⟨D', h, ((Turn.refl D w).drew).trans t, s⟩
theorem Rem.n0 (h : Rem D B y ws m tr bad w) : w.cell? ⟨y, 0, none⟩ = some (.int .i64 (ws.length : Nat)) := by
  obtain ⟨hb, few, lo, lc, lg, eo, ec, hm, hr, hl, hd⟩ := h
  exact hm.c0
/-- BLOCK l IS THE DOCUMENT's LOCK -/
def RLk (l y nx sv : Nat) (w : World) : Prop := w.heap[l]? = some (.cells #[.pointer (some ⟨y, 0, none⟩), .int .i64 (nx : Nat), .int .i64 (sv : Nat)] 79 (0, 0))
def rst (has ho : Bool) : Int := if has then (if ho then 2 else 1) else 0
def rnm (t : Int) (has : Bool) : Int := if has then t else 0
/-- BLOCK b IS THE DOCUMENT's WAITER -/
def RWt (b l : Nat) (t : Int) (has ho : Bool) (w : World) : Prop := w.heap[b]? = some (.cells #[.pointer (some ⟨l, 0, none⟩), .int .i64 (rst has ho), .int .i64 (rnm t has)] 94 (0, 0))
variable {l b nx sv : Nat} {t : Int} {has ho : Bool}
theorem RLk.kept {S : Nat → Prop} (h : RLk l y nx sv w) (t : Turn S w w') (hn : ¬ S l) : RLk l y nx sv w' := (t.block l (lt_of_heap h) hn).trans h
theorem RWt.kept {S : Nat → Prop} (h : RWt b l t has ho w) (tt : Turn S w w') (hn : ¬ S b) : RWt b l t has ho w' := (tt.block b (lt_of_heap h) hn).trans h
theorem RLk.below (h : RLk l y nx sv w) (t : Below w.heap.size w w') : RLk l y nx sv w' := (t.block l (lt_of_heap h)).trans h
theorem RWt.below (h : RWt b l t has ho w) (tt : Below w.heap.size w w') : RWt b l t has ho w' := (tt.block b (lt_of_heap h)).trans h
theorem RLk.nd (h : RLk l y nx sv w) (hm : Rem D B y ws m tr bad w) : ¬ D l := hm.not h (by decide)
theorem RWt.nd {l y : Nat} (h : RWt b l t has ho w) (hm : Rem D B y ws m tr bad w) : ¬ D b := hm.not h (by decide)
theorem RLk.c0 (h : RLk l y nx sv w) : w.cell? ⟨l, 0, none⟩ = some (.pointer (some ⟨y, 0, none⟩)) := by rw [Lib.cell_of_heap h]; rfl
theorem RLk.c1 (h : RLk l y nx sv w) : w.cell? ⟨l, 1, none⟩ = some (.int .i64 (nx : Nat)) := by rw [Lib.cell_of_heap h]; rfl
theorem RLk.c2 (h : RLk l y nx sv w) : w.cell? ⟨l, 2, none⟩ = some (.int .i64 (sv : Nat)) := by rw [Lib.cell_of_heap h]; rfl
theorem RWt.c0 (h : RWt b l t has ho w) : w.cell? ⟨b, 0, none⟩ = some (.pointer (some ⟨l, 0, none⟩)) := by rw [Lib.cell_of_heap h]; rfl
theorem RWt.c1 (h : RWt b l t has ho w) : w.cell? ⟨b, 1, none⟩ = some (.int .i64 (rst has ho)) := by rw [Lib.cell_of_heap h]; rfl
theorem RWt.c2 (h : RWt b l t has ho w) : w.cell? ⟨b, 2, none⟩ = some (.int .i64 (rnm t has)) := by rw [Lib.cell_of_heap h]; rfl
theorem RWt.f (h : RWt b l t has ho w) (j : Nat) : w.frozen? ⟨b, j, none⟩ = false := Lib.frozen_of_heap h j
theorem RTo.lk {ws' : List Int} {tr' : List Ac} {bad' m' : Nat} (t : RTo D B y ws' m' tr' bad' w w') (hm : Rem D B y ws m tr bad w) (h : RLk l y nx sv w) : RLk l y nx sv w' := by
  obtain ⟨D', h', tt, s⟩ := t
  exact h.kept tt (h.nd hm)
theorem RTo.wt {ws' : List Int} {tr' : List Ac} {bad' m' : Nat} (tm : RTo D B y ws' m' tr' bad' w w') (hm : Rem D B y ws m tr bad w) (h : RWt b l t has ho w) : RWt b l t has ho w' := by
  obtain ⟨D', h', tt, s⟩ := tm
  exact h.kept tt (h.nd hm)
def RWTo (D : Nat → Prop) (B y b l : Nat) (ws : List Int) (m : Nat) (tr : List Ac) (bad : Nat) (t : Int) (has ho : Bool) (w w' : World) : Prop :=
  ∃ D', Rem D' B y ws m tr bad w' ∧ RWt b l t has ho w' ∧ Turn (fun j => D j ∨ j = b) w w' ∧ ∀ j, D' j → D j ∨ w.heap.size ≤ j
theorem RWTo.same (h : Rem D B y ws m tr bad w) (hw : RWt b l t has ho w) : RWTo D B y b l ws m tr bad t has ho w w := ⟨D, h, hw, Turn.refl _ _, fun j hj => .inl hj⟩
theorem RWTo.of_to {ws' : List Int} {tr' : List Ac} {bad' m' : Nat} (h : Rem D B y ws m tr bad w) (hw : RWt b l t has ho w) (tm : RTo D B y ws' m' tr' bad' w w') : RWTo D B y b l ws' m' tr' bad' t has ho w w' := by
  have hw' := tm.wt h hw
  obtain ⟨D', h', tt, s⟩ := tm
  exact ⟨D', h', hw', tt.mono (fun j _ q => .inl q), s⟩
theorem RWTo.put {t1 : Int} {h1 o1 : Bool} {w1 : World} (hk : RWTo D B y b l ws m tr bad t has ho w w1) (tt : Turn (fun j => j = b) w1 w') (hw : RWt b l t1 h1 o1 w') : RWTo D B y b l ws m tr bad t1 h1 o1 w w' := by
  obtain ⟨D', hm, hwt, tu, s⟩ := hk
  exact ⟨D', hm.kept tt (fun j hj e => hwt.nd hm (e ▸ hj)), hw, tu.trans (tt.mono (fun j _ e => .inr e)), s⟩
theorem RWTo.more {m' : Nat} (hk : RWTo D B y b l ws m tr bad t has ho w w') (h : m ≤ m') : RWTo D B y b l ws m' tr bad t has ho w w' := by
  obtain ⟨D', hm, hwt, tu, s⟩ := hk
  exact ⟨D', hm.more h, hwt, tu, s⟩
set_option maxRecDepth 100000 in
set_option maxHeartbeats 1000000 in
theorem rnew_out (a c : Int) (h : Rem D B y ws m tr bad w) (ho : ¬ (inn ws.length a ∧ inn ws.length c)) : Calls Try.prog 15 #[.pointer (some ⟨y, 0, none⟩), .int .i64 a, .int .i64 c] w fun e w' => e = .returned (.tuple #[.pointer none, .int .i64 140]) ∧ w' = w := by
  have c0 := h.n0
  clear h
  unfold inn at ho
  generalize ws.length = n at *
  by_cases h1 : a < 0
  · clear ho
    go_enter Try.func15, Try.ntmps15
    go_wp2
    go_ret2
    exact ⟨rfl, rfl⟩
  by_cases h2 : (n : Int) ≤ a
  · clear ho
    go_enter Try.func15, Try.ntmps15
    go_wp2
    go_ret2
    exact ⟨rfl, rfl⟩
  by_cases h3 : c < 0
  · clear ho
    go_enter Try.func15, Try.ntmps15
    go_wp2
    go_ret2
    exact ⟨rfl, rfl⟩
  have h4 : (n : Int) ≤ c := by omega
  clear ho
  go_enter Try.func15, Try.ntmps15
  go_wp2
  go_ret2
  exact ⟨rfl, rfl⟩
set_option maxRecDepth 100000 in
set_option maxHeartbeats 1000000 in
theorem rnew_same (a : Int) (h : Rem D B y ws m tr bad w) (h1 : inn ws.length a) : Calls Try.prog 15 #[.pointer (some ⟨y, 0, none⟩), .int .i64 a, .int .i64 a] w fun e w' => e = .returned (.tuple #[.pointer none, .int .i64 1]) ∧ w' = w := by
  have c0 := h.n0
  clear h
  unfold inn at h1
  obtain ⟨h2, h3⟩ := h1
  generalize ws.length = n at *
  have h4 : ¬ ((n : Int) ≤ a) := by omega
  have h5 : ¬ (a < 0) := by omega
  go_enter Try.func15, Try.ntmps15
  go_wp2
  go_ret2
  exact ⟨rfl, rfl⟩
set_option maxRecDepth 100000 in
set_option maxHeartbeats 1000000 in
theorem rnew_ok (nx sv : Nat) (h : Rem D B y ws m tr bad w) (h1 : nx < ws.length) (h2 : sv < ws.length) (hne : nx ≠ sv) : Calls Try.prog 15 #[.pointer (some ⟨y, 0, none⟩), .int .i64 (nx : Nat), .int .i64 (sv : Nat)] w fun e w' => e = .returned (.tuple #[.pointer (some ⟨w.heap.size, 0, none⟩), .int .i64 0]) ∧ w' = w.alloc (.cells #[.pointer (some ⟨y, 0, none⟩), .int .i64 (nx : Nat), .int .i64 (sv : Nat)] 79) := by
  have c0 := h.n0
  clear h
  generalize ws.length = n at *
  have d : ((nx : Int) == (sv : Int)) = false := by simp; omega
  have d1 : decide ((nx : Int) < 0) = false := by simp
  have d2 : decide ((sv : Int) < 0) = false := by simp
  have d3 : decide ((n : Int) ≤ (nx : Int)) = false := by simp; omega
  have d4 : decide ((n : Int) ≤ (sv : Int)) = false := by simp; omega
  go_enter Try.func15, Try.ntmps15
  go_wp2
  go_ret2
  exact ⟨rfl, rfl⟩
theorem rnew_lk (y nx sv : Nat) (w : World) : RLk w.heap.size y nx sv (w.alloc (.cells #[.pointer (some ⟨y, 0, none⟩), .int .i64 (nx : Nat), .int .i64 (sv : Nat)] 79)) := heap_alloc_new _ _
theorem rwait_new (l : Nat) (w : World) : Calls Try.prog 30 #[.pointer (some ⟨l, 0, none⟩)] w fun e w' => e = .returned (.pointer (some ⟨w.heap.size, 0, none⟩)) ∧ w' = w.alloc (.cells #[.pointer (some ⟨l, 0, none⟩), .int .i64 0, .int .i64 0] 94) := by
  go_enter Try.func30, Try.ntmps30
  go_wp2
  go_ret
  exact ⟨rfl, rfl⟩
theorem rwait_wt (l : Nat) (w : World) : RWt w.heap.size l (-1) false false (w.alloc (.cells #[.pointer (some ⟨l, 0, none⟩), .int .i64 0, .int .i64 0] 94)) := heap_alloc_new _ _
theorem rticket_any (hw : RWt b l t has ho w) (ht : has = false → t = -1) : Calls Try.prog 39 #[.pointer (some ⟨b, 0, none⟩)] w fun e w' => e = .returned (.int .i64 t) ∧ w' = w := by
  have c1 := hw.c1
  have c2 := hw.c2
  clear hw
  cases has with
  | false =>
    have := ht rfl
    subst this
    rw [show rst false ho = 0 from rfl] at c1
    clear ht
    go_enter Try.func39, Try.ntmps39
    go_wp2
    go_ret
    exact ⟨rfl, rfl⟩
  | true =>
    rw [show rnm t true = t from rfl] at c2
    clear ht
    cases ho with
    | false =>
      rw [show rst true false = 1 from rfl] at c1
      go_enter Try.func39, Try.ntmps39
      go_wp2
      go_ret
      exact ⟨rfl, rfl⟩
    | true =>
      rw [show rst true true = 2 from rfl] at c1
      go_enter Try.func39, Try.ntmps39
      go_wp2
      go_ret
      exact ⟨rfl, rfl⟩
set_option maxRecDepth 100000 in
set_option maxHeartbeats 1000000 in
theorem rleave_any (h : Rem D B y ws m tr bad w) (hk : RLk l y nx sv w) (hl : tr.length < 1999999999999) (hm : m < 1999999999999) :
    Calls Try.prog 31 #[.pointer (some ⟨l, 0, none⟩)] w fun e w' => e = .returned (.int .i64 (er ws sv)) ∧ RTo D B y (put ws sv (wrap64 (std ws sv + 1))) (m + 1) (tr ++ [⟨4, sv, 1, std ws sv, good ws sv⟩]) (bad + bd ws sv) w w' := by
  have c0 := hk.c0
  have c1 := hk.c2
  have HC : Hid (Calls Try.prog 47 #[.pointer (some ⟨y, 0, none⟩), .int .i64 (sv : Nat), .int .i64 1] w.drew fun e w' => e = .returned (.tuple #[.int .i64 (std ws sv), .int .i64 (er ws sv)]) ∧ RTo D B y (put ws sv (wrap64 (std ws sv + 1))) (m + 1) (tr ++ [⟨4, sv, 1, std ws sv, good ws sv⟩]) (bad + bd ws sv) w w') := hide' ((add_any (sv : Int) 1 (Rem.drew h) hl hm).mono fun e w' ⟨he, ht⟩ => ⟨he, RTo.drew ht⟩)
  have Hk : Hid (∀ w', RTo D B y (put ws sv (wrap64 (std ws sv + 1))) (m + 1) (tr ++ [⟨4, sv, 1, std ws sv, good ws sv⟩]) (bad + bd ws sv) w w' → RLk l y nx sv w') := hide' (fun w' t => RTo.lk t h hk)
  generalize put ws sv (wrap64 (std ws sv + 1)) = ws1 at *
  generalize tr ++ [(⟨4, sv, 1, std ws sv, good ws sv⟩ : Ac)] = tr1 at *
  generalize bad + bd ws sv = bad1 at *
  generalize std ws sv = V at *
  generalize er ws sv = E at *
  clear h hk hl hm
  go_enter Try.func31, Try.ntmps31
  go_wp2_with fail
  go_region_held3 (fun w' => w'.cell? ⟨l, 0, none⟩ = some (.pointer (some ⟨y, 0, none⟩)) ∧ w'.cell? ⟨l, 2, none⟩ = some (.int .i64 (sv : Nat))) (first | exact ⟨c0, c1⟩ | exact ⟨k0, k1⟩) ((go_at_call 47; refine HC.out.mono ?_; rintro e w3 ⟨rfl, t3⟩; have k0 := (Hk.out w3 t3).c0; have k1 := (Hk.out w3 t3).c2))
  rename_i hHeld
  clear hHeld
  go_wp2
  go_ret
  exact ⟨rfl, t3⟩
end F
end Go.Proofs.Ytnpdmeeolcjmlaa
