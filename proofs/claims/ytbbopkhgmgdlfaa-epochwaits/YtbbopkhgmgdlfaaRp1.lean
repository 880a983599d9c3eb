import Derived.Test.YtbbopkhgmgdlfaaEp4
import Derived.Test.YtbbopkhgmgdlfaaRfB
import Derived.Test.YtbbopkhgmgdlfaaPrs
set_option linter.unusedVariables false
set_option linter.unusedSimpArgs false
namespace Go.Proofs.Ytbbopkhgmgdlfaa
open Go.RowKit
namespace F
open M
variable {D : Nat → Prop} {B y m : Nat} {ws : List Int} {tr : List Ac} {bad : Nat} {w w' : World}
theorem Rem.kind (h : Rem D B y ws m tr bad w) {j : Nat} (hj : D j) : ∃ cs t, w.heap[j]? = some (.cells cs t (0, 0)) ∧ (t = 85 ∨ t = 99 ∨ t = 75) := by
  obtain ⟨hb, few, lo, lc, lg, eo, ec, hm, hr, hl, hd⟩ := h
  rcases (hd j).1 hj with rfl | q | q
  · exact ⟨_, _, hm.hx, .inl rfl⟩
  · obtain ⟨_, _, cs, h3⟩ := row_at hm.log q
    exact ⟨cs, _, h3, .inr (.inl rfl)⟩
  · obtain ⟨_, _, cs, h3⟩ := row_at hm.row q
    exact ⟨cs, _, h3, .inr (.inr rfl)⟩
theorem Rem.not (h : Rem D B y ws m tr bad w) {j : Nat} {cs : Array Value} {t : TypeId} {r : Nat × Nat} (ho : w.heap[j]? = some (.cells cs t r)) (hk : t ≠ 85 ∧ t ≠ 99 ∧ t ≠ 75) : ¬ D j := by
  intro hj
  obtain ⟨cs', t', h1, h2⟩ := h.kind hj
  rw [ho] at h1
  cases h1
  rcases h2 with q | q | q
  · exact hk.1 q
  · exact hk.2.1 q
  · exact hk.2.2 q
theorem RTo.drew (t : RTo D B y ws m tr bad w.drew w') : RTo D B y ws m tr bad w w' := by
  obtain ⟨D', h, t, s⟩ := t
  exact ⟨D', h, ((Turn.refl D w).drew).trans t, s⟩
theorem Rem.few (h : Rem D B y ws m tr bad w) : ws.length ≤ 65536 := by
  obtain ⟨hb, few, lo, lc, lg, eo, ec, hm, hr, hl, hd⟩ := h
  exact few
theorem Rem.drewN (h : Rem D B y ws m tr bad w) (k : Nat) : Rem D B y ws m tr bad (w.drewN k) := h.kept ((Turn.refl (fun _ => False) w).drewN k) (fun _ _ q => q)
/-- BLOCK b IS THE DOCUMENT's SLOTS -/
def RSl (b y e f n : Nat) (w : World) : Prop := w.heap[b]? = some (.cells #[.pointer (some ⟨y, 0, none⟩), .int .i64 (e : Nat), .int .i64 (f : Nat), .int .i64 (n : Nat)] 93 (0, 0))
def rscc (l s : Nat) (md : Nat) (sn : Int) : Array Value := #[.pointer (some ⟨l, 0, none⟩), .int .i64 (s : Nat), .int .i64 (md : Nat), .int .i64 sn]
def rgrc (l : Nat) (ad : Bool) (si : Int) (go : Nat) : Array Value := #[.pointer (some ⟨l, 0, none⟩), .bool ad, .int .i64 si, .int .i64 (go : Nat)]
/-- BLOCK b IS THE DOCUMENT's SECTION -/
def RSc (b l s : Nat) (md : Nat) (sn : Int) (w : World) : Prop := w.heap[b]? = some (.cells (rscc l s md sn) 129 (0, 0))
/-- BLOCK b IS THE DOCUMENT's GRACE PERIOD -/
def RGr (b l : Nat) (ad : Bool) (si : Int) (go : Nat) (w : World) : Prop := w.heap[b]? = some (.cells (rgrc l ad si go) 131 (0, 0))
variable {b l e f n s md go : Nat} {sn si : Int} {ad : Bool}
theorem RSl.c0 (h : RSl b y e f n w) : w.cell? ⟨b, 0, none⟩ = some (.pointer (some ⟨y, 0, none⟩)) := by rw [Lib.cell_of_heap h]; rfl
theorem RSl.c1 (h : RSl b y e f n w) : w.cell? ⟨b, 1, none⟩ = some (.int .i64 (e : Nat)) := by rw [Lib.cell_of_heap h]; rfl
theorem RSl.c2 (h : RSl b y e f n w) : w.cell? ⟨b, 2, none⟩ = some (.int .i64 (f : Nat)) := by rw [Lib.cell_of_heap h]; rfl
theorem RSl.c3 (h : RSl b y e f n w) : w.cell? ⟨b, 3, none⟩ = some (.int .i64 (n : Nat)) := by rw [Lib.cell_of_heap h]; rfl
theorem RSc.c0 (h : RSc b l s md sn w) : w.cell? ⟨b, 0, none⟩ = some (.pointer (some ⟨l, 0, none⟩)) := by rw [Lib.cell_of_heap h]; rfl
theorem RSc.c1 (h : RSc b l s md sn w) : w.cell? ⟨b, 1, none⟩ = some (.int .i64 (s : Nat)) := by rw [Lib.cell_of_heap h]; rfl
theorem RSc.c2 (h : RSc b l s md sn w) : w.cell? ⟨b, 2, none⟩ = some (.int .i64 (md : Nat)) := by rw [Lib.cell_of_heap h]; rfl
theorem RSc.c3 (h : RSc b l s md sn w) : w.cell? ⟨b, 3, none⟩ = some (.int .i64 sn) := by rw [Lib.cell_of_heap h]; rfl
theorem RSc.fz (h : RSc b l s md sn w) (j : Nat) : w.frozen? ⟨b, j, none⟩ = false := Lib.frozen_of_heap h j
theorem RGr.c0 (h : RGr b l ad si go w) : w.cell? ⟨b, 0, none⟩ = some (.pointer (some ⟨l, 0, none⟩)) := by rw [Lib.cell_of_heap h]; rfl
theorem RGr.c1 (h : RGr b l ad si go w) : w.cell? ⟨b, 1, none⟩ = some (.bool ad) := by rw [Lib.cell_of_heap h]; rfl
theorem RGr.c2 (h : RGr b l ad si go w) : w.cell? ⟨b, 2, none⟩ = some (.int .i64 si) := by rw [Lib.cell_of_heap h]; rfl
theorem RGr.c3 (h : RGr b l ad si go w) : w.cell? ⟨b, 3, none⟩ = some (.int .i64 (go : Nat)) := by rw [Lib.cell_of_heap h]; rfl
theorem RGr.fz (h : RGr b l ad si go w) (j : Nat) : w.frozen? ⟨b, j, none⟩ = false := Lib.frozen_of_heap h j
theorem RSl.kept {S : Nat → Prop} (h : RSl b y e f n w) (t : Turn S w w') (hn : ¬ S b) : RSl b y e f n w' := (t.block b (lt_of_heap h) hn).trans h
theorem RSl.below (h : RSl b y e f n w) (t : Below w.heap.size w w') : RSl b y e f n w' := (t.block b (lt_of_heap h)).trans h
theorem RSc.s2 (h : RSc b l s md sn w) (v : Nat) : RSc b l s v sn (w.setCell ⟨b, 2, none⟩ (.int .i64 (v : Nat))) := by have := set_block (off := 2) (v := .int .i64 (v : Nat)) h; exact this
theorem RSc.s3 (h : RSc b l s md sn w) (v : Int) : RSc b l s md v (w.setCell ⟨b, 3, none⟩ (.int .i64 v)) := by have := set_block (off := 3) (v := .int .i64 v) h; exact this
theorem RGr.s1 (h : RGr b l ad si go w) (v : Bool) : RGr b l v si go (w.setCell ⟨b, 1, none⟩ (.bool v)) := by have := set_block (off := 1) (v := .bool v) h; exact this
theorem RGr.s2 (h : RGr b l ad si go w) (v : Int) : RGr b l ad v go (w.setCell ⟨b, 2, none⟩ (.int .i64 v)) := by have := set_block (off := 2) (v := .int .i64 v) h; exact this
theorem RGr.s3 (h : RGr b l ad si go w) (v : Nat) : RGr b l ad si v (w.setCell ⟨b, 3, none⟩ (.int .i64 (v : Nat))) := by have := set_block (off := 3) (v := .int .i64 (v : Nat)) h; exact this
/-- what a call on the document's memory and one block beside it leaves -/
def RBTo (D : Nat → Prop) (B y b : Nat) (ws : List Int) (m : Nat) (tr : List Ac) (bad : Nat) (cs : Array Value) (T : TypeId) (w w' : World) : Prop :=
  ∃ D', Rem D' B y ws m tr bad w' ∧ w'.heap[b]? = some (.cells cs T (0, 0)) ∧ Turn (fun j => D j ∨ j = b) w w' ∧ ∀ j, D' j → D j ∨ w.heap.size ≤ j
variable {cs cs' : Array Value} {T : TypeId}
theorem RBTo.same (h : Rem D B y ws m tr bad w) (hw : w.heap[b]? = some (.cells cs T (0, 0))) : RBTo D B y b ws m tr bad cs T w w := ⟨D, h, hw, Turn.refl _ _, fun j hj => .inl hj⟩
theorem RBTo.of_to {ws' : List Int} {tr' : List Ac} {bad' m' : Nat} (h : Rem D B y ws m tr bad w) (hw : w.heap[b]? = some (.cells cs T (0, 0))) (hk : T ≠ 85 ∧ T ≠ 99 ∧ T ≠ 75) (tm : RTo D B y ws' m' tr' bad' w w') : RBTo D B y b ws' m' tr' bad' cs T w w' := by
  obtain ⟨D', h', tt, s⟩ := tm
  exact ⟨D', h', (tt.block b (lt_of_heap hw) (h.not hw hk)).trans hw, tt.mono (fun j _ q => .inl q), s⟩
theorem RBTo.put {w1 : World} (hk : RBTo D B y b ws m tr bad cs T w w1) (hT : T ≠ 85 ∧ T ≠ 99 ∧ T ≠ 75) (tt : Turn (fun j => j = b) w1 w') (hw : w'.heap[b]? = some (.cells cs' T (0, 0))) : RBTo D B y b ws m tr bad cs' T w w' := by
  obtain ⟨D', hm, hwt, tu, s⟩ := hk
  exact ⟨D', hm.kept tt (fun j hj q => hm.not hwt hT (q ▸ hj)), hw, tu.trans (tt.mono (fun j _ q => .inr q)), s⟩
theorem RBTo.more {m' : Nat} (hk : RBTo D B y b ws m tr bad cs T w w') (h : m ≤ m') : RBTo D B y b ws m' tr bad cs T w w' := by
  obtain ⟨D', hm, hwt, tu, s⟩ := hk
  exact ⟨D', hm.more h, hwt, tu, s⟩
theorem RBTo.drewN (hk : RBTo D B y b ws m tr bad cs T w w') (k : Nat) : RBTo D B y b ws m tr bad cs T w (w'.drewN k) := by
  obtain ⟨D', hm, hwt, tu, s⟩ := hk
  exact ⟨D', hm.drewN k, hwt, tu.drewN k, s⟩
theorem RTo.rsl {ws' : List Int} {tr' : List Ac} {bad' m' : Nat} (t : RTo D B y ws' m' tr' bad' w w') (hm : Rem D B y ws m tr bad w) (h : RSl b y e f n w) : RSl b y e f n w' := by
  obtain ⟨D', h', tt, s⟩ := t
  exact h.kept tt (hm.not h (by decide))
theorem krs : (129 : Nat) ≠ 85 ∧ (129 : Nat) ≠ 99 ∧ (129 : Nat) ≠ 75 := by decide
theorem krg : (131 : Nat) ≠ 85 ∧ (131 : Nat) ≠ 99 ∧ (131 : Nat) ≠ 75 := by decide
set_option maxRecDepth 100000 in
set_option maxHeartbeats 1000000 in
theorem there_any (a : Int) (h : Rem D B y ws m tr bad w) : Calls Try.prog 32 #[.pointer (some ⟨y, 0, none⟩), .int .i64 a] w fun r w' => r = .returned (.bool (decide (0 ≤ a ∧ a < (ws.length : Int)))) ∧ w' = w := by
  have HC := hide' (len_any h)
  clear h
  generalize ws.length = L at *
  by_cases h0 : 0 ≤ a
  · by_cases h1 : a < (L : Int)
    · rw [show decide (0 ≤ a ∧ a < (L : Int)) = true from decide_eq_true ⟨h0, h1⟩]
      go_enter Try.func32, Try.ntmps32
      go_wp2_with fail
      refine HC.out.mono ?_
      rintro r w2 ⟨rfl, rfl⟩
      go_wp2
      go_ret
      exact ⟨rfl, rfl⟩
    · rw [show decide (0 ≤ a ∧ a < (L : Int)) = false from decide_eq_false (fun q => h1 q.2)]
      have d1 : decide (a < (L : Int)) = false := decide_eq_false h1
      go_enter Try.func32, Try.ntmps32
      go_wp2_with fail
      refine HC.out.mono ?_
      rintro r w2 ⟨rfl, rfl⟩
      go_wp2
      go_ret
      exact ⟨rfl, rfl⟩
  · rw [show decide (0 ≤ a ∧ a < (L : Int)) = false from decide_eq_false (fun q => h0 q.1)]
    have d1 : decide (0 ≤ a) = false := decide_eq_false h0
    clear HC
    go_enter Try.func32, Try.ntmps32
    go_wp2
    go_ret
    exact ⟨rfl, rfl⟩
theorem rsnew_range (a c d : Int) (w : World) (y : Nat) (hd : ¬ (1 ≤ d ∧ d ≤ 16)) : Calls Try.prog 11 #[.pointer (some ⟨y, 0, none⟩), .int .i64 a, .int .i64 c, .int .i64 d] w fun r w' => r = .returned (.tuple #[.pointer none, .int .i64 3]) ∧ w' = w := by
  by_cases h1 : d < 1
  · clear hd
    go_enter Try.func11, Try.ntmps11
    go_wp2
    go_ret2
    exact ⟨rfl, rfl⟩
  · have h2 : 16 < d := by omega
    clear hd
    go_enter Try.func11, Try.ntmps11
    go_wp2
    go_ret2
    exact ⟨rfl, rfl⟩
theorem wsubL (L n : Nat) (h1 : L ≤ 65536) (h2 : n ≤ 16) : wrap64 ((L : Int) - (n : Int)) = (L : Int) - (n : Int) := by unfold wrap64; omega
theorem waddL (f n : Nat) (h1 : f ≤ 65536) (h2 : n ≤ 16) : wrap64 ((f : Int) + (n : Int)) = (f : Int) + (n : Int) := by unfold wrap64; omega
set_option maxRecDepth 100000 in
set_option maxHeartbeats 1000000 in
theorem rsnew_out (a c : Int) (n : Nat) (h : Rem D B y ws m tr bad w) (hn : 1 ≤ n ∧ n ≤ 16) (ho : ¬ (wi ws.length a 1 ∧ wi ws.length c n)) : Calls Try.prog 11 #[.pointer (some ⟨y, 0, none⟩), .int .i64 a, .int .i64 c, .int .i64 (n : Nat)] w fun r w' => r = .returned (.tuple #[.pointer none, .int .i64 140]) ∧ w' = w := by
  have H1 := hide' (there_any a h)
  have H2 := hide' (there_any c h)
  have H3 := hide' (len_any h)
  have n1 : ¬ ((n : Int) < 1) := by omega
  have n2 : ¬ (16 < (n : Int)) := by omega
  have HW := hide' (wsubL ws.length n h.few hn.2)
  clear h
  unfold wi at ho
  generalize ws.length = L at *
  by_cases h1 : 0 ≤ a ∧ a < (L : Int)
  · rw [decide_eq_true h1] at H1
    by_cases h2 : 0 ≤ c ∧ c < (L : Int)
    · have h3 : (L : Int) - (n : Int) < c := by omega
      rw [decide_eq_true h2] at H2
      have hw := HW.out
      clear h1 h2 ho hn HW
      go_enter Try.func11, Try.ntmps11
      go_wp2_with fail
      refine H1.out.mono ?_
      rintro r w2 ⟨rfl, hw⟩
      replace hw := hw.symm
      subst hw
      go_wp2_with fail
      refine H2.out.mono ?_
      rintro r w2 ⟨rfl, hw⟩
      replace hw := hw.symm
      subst hw
      go_wp2_with fail
      refine H3.out.mono ?_
      rintro r w2 ⟨rfl, hw⟩
      replace hw := hw.symm
      subst hw
      go_wp2
      go_ret2
      exact ⟨rfl, rfl⟩
    · rw [decide_eq_false h2] at H2
      clear h1 h2 ho hn HW H3
      go_enter Try.func11, Try.ntmps11
      go_wp2_with fail
      refine H1.out.mono ?_
      rintro r w2 ⟨rfl, hw⟩
      replace hw := hw.symm
      subst hw
      go_wp2_with fail
      refine H2.out.mono ?_
      rintro r w2 ⟨rfl, hw⟩
      replace hw := hw.symm
      subst hw
      go_wp2
      go_ret2
      exact ⟨rfl, rfl⟩
  · rw [decide_eq_false h1] at H1
    clear h1 ho hn HW H3 H2
    go_enter Try.func11, Try.ntmps11
    go_wp2_with fail
    refine H1.out.mono ?_
    rintro r w2 ⟨rfl, hw⟩
    replace hw := hw.symm
    subst hw
    go_wp2
    go_ret2
    exact ⟨rfl, rfl⟩
set_option maxRecDepth 100000 in
set_option maxHeartbeats 1000000 in
theorem rsnew_arg (e f n : Nat) (h : Rem D B y ws m tr bad w) (hn : 1 ≤ n ∧ n ≤ 16) (h1 : e < ws.length) (h2 : f + n ≤ ws.length) (ha : f ≤ e ∧ e < f + n) : Calls Try.prog 11 #[.pointer (some ⟨y, 0, none⟩), .int .i64 (e : Nat), .int .i64 (f : Nat), .int .i64 (n : Nat)] w fun r w' => r = .returned (.tuple #[.pointer none, .int .i64 1]) ∧ w' = w := by
  have H1 := hide' (there_any (e : Int) h)
  have H2 := hide' (there_any (f : Int) h)
  have H3 := hide' (len_any h)
  have n1 : ¬ ((n : Int) < 1) := by omega
  have n2 : ¬ (16 < (n : Int)) := by omega
  have few := h.few
  rw [decide_eq_true (show 0 ≤ (e : Int) ∧ (e : Int) < (ws.length : Int) by omega)] at H1
  rw [decide_eq_true (show 0 ≤ (f : Int) ∧ (f : Int) < (ws.length : Int) by omega)] at H2
  have d0 : ¬ ((ws.length : Int) - (n : Int) < (f : Int)) := by omega
  have d1 : (f : Int) ≤ (e : Int) := by omega
  have d2 : (e : Int) < (f : Int) + (n : Int) := by omega
  have hw1 := wsubL ws.length n few hn.2
  have hw2 := waddL f n (Nat.le_trans (Nat.le_trans (Nat.le_add_right f n) h2) few) hn.2
  clear h hn few h1 h2 ha
  go_enter Try.func11, Try.ntmps11
  go_wp2_with fail
  refine H1.out.mono ?_
  rintro r w2 ⟨rfl, hw⟩
  replace hw := hw.symm
  subst hw
  go_wp2_with fail
  refine H2.out.mono ?_
  rintro r w2 ⟨rfl, hw⟩
  replace hw := hw.symm
  subst hw
  go_wp2_with fail
  refine H3.out.mono ?_
  rintro r w2 ⟨rfl, hw⟩
  replace hw := hw.symm
  subst hw
  go_wp2
  go_ret2
  exact ⟨rfl, rfl⟩
set_option maxRecDepth 100000 in
set_option maxHeartbeats 1000000 in
theorem rsnew_ok (e f n : Nat) (h : Rem D B y ws m tr bad w) (hn : 1 ≤ n ∧ n ≤ 16) (h1 : e < ws.length) (h2 : f + n ≤ ws.length) (ha : ¬ (f ≤ e ∧ e < f + n)) : Calls Try.prog 11 #[.pointer (some ⟨y, 0, none⟩), .int .i64 (e : Nat), .int .i64 (f : Nat), .int .i64 (n : Nat)] w fun r w' => r = .returned (.tuple #[.pointer (some ⟨w.heap.size, 0, none⟩), .int .i64 0]) ∧ w' = w.alloc (.cells #[.pointer (some ⟨y, 0, none⟩), .int .i64 (e : Nat), .int .i64 (f : Nat), .int .i64 (n : Nat)] 93) := by
  have H1 := hide' (there_any (e : Int) h)
  have H2 := hide' (there_any (f : Int) h)
  have H3 := hide' (len_any h)
  have n1 : ¬ ((n : Int) < 1) := by omega
  have n2 : ¬ (16 < (n : Int)) := by omega
  have few := h.few
  rw [decide_eq_true (show 0 ≤ (e : Int) ∧ (e : Int) < (ws.length : Int) by omega)] at H1
  rw [decide_eq_true (show 0 ≤ (f : Int) ∧ (f : Int) < (ws.length : Int) by omega)] at H2
  have d0 : ¬ ((ws.length : Int) - (n : Int) < (f : Int)) := by omega
  by_cases hd : f ≤ e
  · have d1 : decide ((f : Int) ≤ (e : Int)) = true := decide_eq_true (by omega)
    have d2 : decide ((e : Int) < (f : Int) + (n : Int)) = false := decide_eq_false (by omega)
    have d3 : ¬ (e < f + n) := by omega
    have hw1 := wsubL ws.length n few hn.2
    have hw2 := waddL f n (Nat.le_trans (Nat.le_trans (Nat.le_add_right f n) h2) few) hn.2
    clear h hn few h1 h2 ha
    go_enter Try.func11, Try.ntmps11
    go_wp2_with fail
    refine H1.out.mono ?_
    rintro r w2 ⟨rfl, hw⟩
    replace hw := hw.symm
    subst hw
    go_wp2_with fail
    refine H2.out.mono ?_
    rintro r w2 ⟨rfl, hw⟩
    replace hw := hw.symm
    subst hw
    go_wp2_with fail
    refine H3.out.mono ?_
    rintro r w2 ⟨rfl, hw⟩
    replace hw := hw.symm
    subst hw
    go_wp2
    go_ret2
    exact ⟨rfl, rfl⟩
  · have d1 : decide ((f : Int) ≤ (e : Int)) = false := decide_eq_false (by omega)
    have hw1 := wsubL ws.length n few hn.2
    clear h hn few h1 h2 ha
    go_enter Try.func11, Try.ntmps11
    go_wp2_with fail
    refine H1.out.mono ?_
    rintro r w2 ⟨rfl, hw⟩
    replace hw := hw.symm
    subst hw
    go_wp2_with fail
    refine H2.out.mono ?_
    rintro r w2 ⟨rfl, hw⟩
    replace hw := hw.symm
    subst hw
    go_wp2_with fail
    refine H3.out.mono ?_
    rintro r w2 ⟨rfl, hw⟩
    replace hw := hw.symm
    subst hw
    go_wp2
    go_ret2
    exact ⟨rfl, rfl⟩
set_option maxRecDepth 100000 in
set_option maxHeartbeats 1000000 in
theorem renter_no (z : Int) (h : RSl b y e f n w) (hz : isl n z = false) : Calls Try.prog 59 #[.pointer (some ⟨b, 0, none⟩), .int .i64 z] w fun r w' => r = .returned (.tuple #[.pointer none, .int .i64 181]) ∧ w' = w := by
  have c3 := h.c3
  have hz' : ¬ (0 ≤ z ∧ z < (n : Int)) := of_decide_eq_false hz
  clear h hz
  by_cases h0 : z < 0
  · clear hz'
    go_enter Try.func59, Try.ntmps59
    go_wp2
    go_ret2
    exact ⟨rfl, rfl⟩
  · have h1 : (n : Int) ≤ z := by omega
    clear hz'
    go_enter Try.func59, Try.ntmps59
    go_wp2
    go_ret2
    exact ⟨rfl, rfl⟩
set_option maxRecDepth 100000 in
set_option maxHeartbeats 1000000 in
theorem renter_ok (s : Nat) (h : RSl b y e f n w) (hz : s < n) : Calls Try.prog 59 #[.pointer (some ⟨b, 0, none⟩), .int .i64 (s : Nat)] w fun r w' => r = .returned (.tuple #[.pointer (some ⟨w.heap.size, 0, none⟩), .int .i64 0]) ∧ w' = w.alloc (.cells (rscc b s 0 0) 129) := by
  have c3 := h.c3
  have h0 : ¬ ((s : Int) < 0) := by omega
  have h1 : ¬ ((n : Int) ≤ (s : Int)) := by omega
  clear h
  go_enter Try.func59, Try.ntmps59
  go_wp2
  go_ret2
  exact ⟨rfl, rfl⟩
theorem renter_sc (l s : Nat) (w : World) : RSc w.heap.size l s 0 0 (w.alloc (.cells (rscc l s 0 0) 129)) := heap_alloc_new _ _
theorem rwait_any (b : Nat) (w : World) : Calls Try.prog 61 #[.pointer (some ⟨b, 0, none⟩)] w fun r w' => r = .returned (.pointer (some ⟨w.heap.size, 0, none⟩)) ∧ w' = w.alloc (.cells (rgrc b false 0 0) 131) := by
  go_enter Try.func61, Try.ntmps61
  go_wp2
  go_ret
  exact ⟨rfl, rfl⟩
theorem rwait_gr (l : Nat) (w : World) : RGr w.heap.size l false 0 0 (w.alloc (.cells (rgrc l false 0 0) 131)) := heap_alloc_new _ _
set_option maxRecDepth 100000 in
set_option maxHeartbeats 1000000 in
theorem rmark_any (h : RSc b l s md sn w) : Calls Try.prog 63 #[.pointer (some ⟨b, 0, none⟩)] w fun r w' => r = .returned (.int .i64 (mk (md : Nat) sn)) ∧ w' = w := by
  have c5 := h.c2
  have c6 := h.c3
  clear h
  by_cases hd : (md : Int) < 2
  · rw [show mk (md : Nat) sn = 0 from if_pos hd]
    go_enter Try.func63, Try.ntmps63
    go_wp2
    go_ret
    exact ⟨rfl, rfl⟩
  · rw [show mk (md : Nat) sn = sn from if_neg hd]
    have d1 : decide ((md : Int) < 2) = false := decide_eq_false hd
    go_enter Try.func63, Try.ntmps63
    go_wp2
    go_ret
    exact ⟨rfl, rfl⟩
end F
end Go.Proofs.Ytbbopkhgmgdlfaa
