import Derived.Test.YtbbopkhgmgdlfaaWtP
import Derived.Test.YtbbopkhgmgdlfaaEx2
set_option linter.unusedVariables false
set_option linter.unusedSimpArgs false
namespace Go.Proofs.Ytbbopkhgmgdlfaa
open Go.RowKit
namespace Wt
open M F V
/-- where the rows lie -/
structure Pl where
  lo : Option Addr
  lc : Nat
  gi : Nat
  ic : Nat
  wo : Option Addr
  wc : Nat
  gt : Nat
  tc : Nat
abbrev Lb := Nat × Nat × Li
abbrev Wb := Nat × Nat × Wa
def lic (p : Lb) : Array Value := #[ptr p.2.1, .int .i64 (p.2.2.slot : Nat), .int .i64 p.2.2.first, .int .i64 p.2.2.begun, .int .i64 p.2.2.left, .int .i64 p.2.2.mark, .int .i64 p.2.2.read]
def wac (p : Wb) : Array Value := #[ptr p.2.1, .int .i64 p.2.2.first, .int .i64 p.2.2.steps, .int .i64 p.2.2.vain, .bool p.2.2.over, .int .i64 p.2.2.put, .int .i64 p.2.2.old]
def foL (p : Lb) : Ob := (p.1, lic p)
def foS (x n : Nat) (p : Lb) : Ob := (p.2.1, scc x 1 2 n p.2.2.slot p.2.2.md p.2.2.sn)
def foW (p : Wb) : Ob := (p.1, wac p)
def foG (x n : Nat) (p : Wb) : Ob := (p.2.1, grc x 1 2 n p.2.2.si p.2.2.nx)
/-- a scene: its block, its rows, its sections and periods -/
structure Sw (B c x sl n K : Nat) (q : Pl) (now cur : Int) (ii tt : List Int) (LL : List Lb) (AA : List Wb) (w : World) : Prop where
  hc : w.heap[c]? = some (.cells #[.pointer (some ⟨x, 0, none⟩), .pointer (some ⟨sl, 0, none⟩), .int .i64 (n : Nat), .int .i64 now, .slice q.lo LL.length q.lc, .slice (some ⟨q.gi, 0, none⟩) n q.ic, .slice q.wo AA.length q.wc, .slice (some ⟨q.gt, 0, none⟩) K q.tc, .int .i64 cur] 67 (0, 0))
  hsl : Sl sl x 1 2 n w
  rl : w.ownsRow B 103 1 (.slice q.lo LL.length q.lc) LL.length ((LL.map (·.1)).map ptr)
  rw : w.ownsRow B 109 1 (.slice q.wo AA.length q.wc) AA.length ((AA.map (·.1)).map ptr)
  ri : w.ownsRow B 3 1 (.slice (some ⟨q.gi, 0, none⟩) n q.ic) n (ivs ii)
  rt : w.ownsRow B 3 1 (.slice (some ⟨q.gt, 0, none⟩) K q.tc) K (ivs tt)
  fl : Fam B 105 (LL.map foL) w
  fs : Fam B 115 (LL.map (foS x n)) w
  fw : Fam B 108 (AA.map foW) w
  fg : Fam B 113 (AA.map (foG x n)) w
  ne : q.gi ≠ q.gt
  lb : B ≤ c ∧ B ≤ sl
variable {B c x sl n K : Nat} {q : Pl} {now cur : Int} {ii tt : List Int} {LL : List Lb} {AA : List Wb} {w w' : World}
def KW (t : TypeId) : Prop := t = 67 ∨ t = 90 ∨ t = 103 ∨ t = 109 ∨ t = 105 ∨ t = 115 ∨ t = 108 ∨ t = 113
instance (t : TypeId) : Decidable (KW t) := by unfold KW; infer_instance
theorem Sw.kept {S : Nat → Prop} (h : Sw B c x sl n K q now cur ii tt LL AA w) (t : Turn S w w') (hS : ∀ (j : Nat) (cs : Array Value) (T : TypeId), w.heap[j]? = some (.cells cs T (0, 0)) → S j → ¬ KW T) (hi : ¬ S q.gi) (ht : ¬ S q.gt) : Sw B c x sl n K q now cur ii tt LL AA w' := by
  refine ⟨(t.block c (lt_of_heap h.hc) (fun z => hS _ _ _ h.hc z (by decide))).trans h.hc, h.hsl.kept t (fun z => hS _ _ _ h.hsl z (by decide)), t.row h.rl (fun j hj z => ?_), t.row h.rw (fun j hj z => ?_), t.row h.ri (fun j hj z => ?_), t.row h.rt (fun j hj z => ?_), h.fl.kept t (fun j cs hj z => hS _ _ _ hj z (by decide)), h.fs.kept t (fun j cs hj z => hS _ _ _ hj z (by decide)), h.fw.kept t (fun j cs hj z => hS _ _ _ hj z (by decide)), h.fg.kept t (fun j cs hj z => hS _ _ _ hj z (by decide)), h.ne, h.lb⟩
  · obtain ⟨_, _, cs, h'⟩ := row_atk h.rl (own_at hj); exact hS _ _ _ h' z (by decide)
  · obtain ⟨_, _, cs, h'⟩ := row_atk h.rw (own_at hj); exact hS _ _ _ h' z (by decide)
  · obtain ⟨a, ha, e⟩ := own_at hj
    cases ha
    subst e
    exact hi z
  · obtain ⟨a, ha, e⟩ := own_at hj
    cases ha
    subst e
    exact ht z
theorem Sw.below (h : Sw B c x sl n K q now cur ii tt LL AA w) (b : Below w.heap.size w w') : Sw B c x sl n K q now cur ii tt LL AA w' := h.kept (turn_below (S := fun _ => False) b) (fun _ _ _ _ z => z.elim) (fun z => z) (fun z => z)
theorem Sw.c0 (h : Sw B c x sl n K q now cur ii tt LL AA w) : w.cell? ⟨c, 0, none⟩ = some (.pointer (some ⟨x, 0, none⟩)) := by rw [Lib.cell_of_heap h.hc]; rfl
theorem Sw.c1 (h : Sw B c x sl n K q now cur ii tt LL AA w) : w.cell? ⟨c, 1, none⟩ = some (.pointer (some ⟨sl, 0, none⟩)) := by rw [Lib.cell_of_heap h.hc]; rfl
theorem Sw.c2 (h : Sw B c x sl n K q now cur ii tt LL AA w) : w.cell? ⟨c, 2, none⟩ = some (.int .i64 (n : Nat)) := by rw [Lib.cell_of_heap h.hc]; rfl
theorem Sw.c3 (h : Sw B c x sl n K q now cur ii tt LL AA w) : w.cell? ⟨c, 3, none⟩ = some (.int .i64 now) := by rw [Lib.cell_of_heap h.hc]; rfl
theorem Sw.c4 (h : Sw B c x sl n K q now cur ii tt LL AA w) : w.cell? ⟨c, 4, none⟩ = some (.slice q.lo LL.length q.lc) := by rw [Lib.cell_of_heap h.hc]; rfl
theorem Sw.c5 (h : Sw B c x sl n K q now cur ii tt LL AA w) : w.cell? ⟨c, 5, none⟩ = some (.slice (some ⟨q.gi, 0, none⟩) n q.ic) := by rw [Lib.cell_of_heap h.hc]; rfl
theorem Sw.c6 (h : Sw B c x sl n K q now cur ii tt LL AA w) : w.cell? ⟨c, 6, none⟩ = some (.slice q.wo AA.length q.wc) := by rw [Lib.cell_of_heap h.hc]; rfl
theorem Sw.c7 (h : Sw B c x sl n K q now cur ii tt LL AA w) : w.cell? ⟨c, 7, none⟩ = some (.slice (some ⟨q.gt, 0, none⟩) K q.tc) := by rw [Lib.cell_of_heap h.hc]; rfl
theorem Sw.c8 (h : Sw B c x sl n K q now cur ii tt LL AA w) : w.cell? ⟨c, 8, none⟩ = some (.int .i64 cur) := by rw [Lib.cell_of_heap h.hc]; rfl
theorem Sw.fz (h : Sw B c x sl n K q now cur ii tt LL AA w) (j : Nat) : w.frozen? ⟨c, j, none⟩ = false := Lib.frozen_of_heap h.hc j
theorem Sw.life (h : Sw B c x sl n K q now cur ii tt LL AA w) {i : Nat} {p : Lb} (hp : LL[i]? = some p) : w.heap[p.1]? = some (.cells (lic p) 105 (0, 0)) ∧ B ≤ p.1 := h.fl.at_ i (foL p) (by rw [List.getElem?_map, hp]; rfl)
theorem Sw.sec (h : Sw B c x sl n K q now cur ii tt LL AA w) {i : Nat} {p : Lb} (hp : LL[i]? = some p) : w.heap[p.2.1]? = some (.cells (scc x 1 2 n p.2.2.slot p.2.2.md p.2.2.sn) 115 (0, 0)) ∧ B ≤ p.2.1 := h.fs.at_ i (foS x n p) (by rw [List.getElem?_map, hp]; rfl)
theorem Sw.wait (h : Sw B c x sl n K q now cur ii tt LL AA w) {i : Nat} {p : Wb} (hp : AA[i]? = some p) : w.heap[p.1]? = some (.cells (wac p) 108 (0, 0)) ∧ B ≤ p.1 := h.fw.at_ i (foW p) (by rw [List.getElem?_map, hp]; rfl)
theorem Sw.gra (h : Sw B c x sl n K q now cur ii tt LL AA w) {i : Nat} {p : Wb} (hp : AA[i]? = some p) : w.heap[p.2.1]? = some (.cells (grc x 1 2 n p.2.2.si p.2.2.nx) 113 (0, 0)) ∧ B ≤ p.2.1 := h.fg.at_ i (foG x n p) (by rw [List.getElem?_map, hp]; rfl)
theorem Sw.lrow (h : Sw B c x sl n K q now cur ii tt LL AA w) {i : Nat} {p : Lb} (hp : LL[i]? = some p) : ∃ g, q.lo = some ⟨g, 0, none⟩ ∧ w.cell? ⟨g, i, none⟩ = some (.pointer (some ⟨p.1, 0, none⟩)) := ptr_cell h.rl (by rw [List.getElem?_map, hp]; rfl)
theorem Sw.wrow (h : Sw B c x sl n K q now cur ii tt LL AA w) {i : Nat} {p : Wb} (hp : AA[i]? = some p) : ∃ g, q.wo = some ⟨g, 0, none⟩ ∧ w.cell? ⟨g, i, none⟩ = some (.pointer (some ⟨p.1, 0, none⟩)) := ptr_cell h.rw (by rw [List.getElem?_map, hp]; rfl)
end Wt
end Go.Proofs.Ytbbopkhgmgdlfaa
set_option linter.unusedVariables false
set_option linter.unusedSimpArgs false
namespace Go.Proofs.Ytbbopkhgmgdlfaa
open Go.RowKit
namespace Wt
open M F V
variable {B c x sl n K : Nat} {q : Pl} {now cur : Int} {ii tt : List Int} {LL : List Lb} {AA : List Wb} {w w' : World}
theorem Sw.l2 (h : Sw B c x sl n K q now cur ii tt LL AA w) {i : Nat} {p : Lb} (hp : LL[i]? = some p) : w.cell? ⟨p.1, 2, none⟩ = some (.int .i64 p.2.2.first) := by rw [Lib.cell_of_heap (h.life hp).1]; rfl
theorem Sw.l3 (h : Sw B c x sl n K q now cur ii tt LL AA w) {i : Nat} {p : Lb} (hp : LL[i]? = some p) : w.cell? ⟨p.1, 3, none⟩ = some (.int .i64 p.2.2.begun) := by rw [Lib.cell_of_heap (h.life hp).1]; rfl
theorem Sw.l4 (h : Sw B c x sl n K q now cur ii tt LL AA w) {i : Nat} {p : Lb} (hp : LL[i]? = some p) : w.cell? ⟨p.1, 4, none⟩ = some (.int .i64 p.2.2.left) := by rw [Lib.cell_of_heap (h.life hp).1]; rfl
theorem Sw.l5 (h : Sw B c x sl n K q now cur ii tt LL AA w) {i : Nat} {p : Lb} (hp : LL[i]? = some p) : w.cell? ⟨p.1, 5, none⟩ = some (.int .i64 p.2.2.mark) := by rw [Lib.cell_of_heap (h.life hp).1]; rfl
theorem Sw.l6 (h : Sw B c x sl n K q now cur ii tt LL AA w) {i : Nat} {p : Lb} (hp : LL[i]? = some p) : w.cell? ⟨p.1, 6, none⟩ = some (.int .i64 p.2.2.read) := by rw [Lib.cell_of_heap (h.life hp).1]; rfl
theorem Sw.l0 (h : Sw B c x sl n K q now cur ii tt LL AA w) {i : Nat} {p : Lb} (hp : LL[i]? = some p) : w.cell? ⟨p.1, 0, none⟩ = some (.pointer (some ⟨p.2.1, 0, none⟩)) := by rw [Lib.cell_of_heap (h.life hp).1]; rfl
theorem Sw.w0 (h : Sw B c x sl n K q now cur ii tt LL AA w) {i : Nat} {p : Wb} (hp : AA[i]? = some p) : w.cell? ⟨p.1, 0, none⟩ = some (.pointer (some ⟨p.2.1, 0, none⟩)) := by rw [Lib.cell_of_heap (h.wait hp).1]; rfl
theorem Sw.w1 (h : Sw B c x sl n K q now cur ii tt LL AA w) {i : Nat} {p : Wb} (hp : AA[i]? = some p) : w.cell? ⟨p.1, 1, none⟩ = some (.int .i64 p.2.2.first) := by rw [Lib.cell_of_heap (h.wait hp).1]; rfl
theorem Sw.w2 (h : Sw B c x sl n K q now cur ii tt LL AA w) {i : Nat} {p : Wb} (hp : AA[i]? = some p) : w.cell? ⟨p.1, 2, none⟩ = some (.int .i64 p.2.2.steps) := by rw [Lib.cell_of_heap (h.wait hp).1]; rfl
theorem Sw.w3 (h : Sw B c x sl n K q now cur ii tt LL AA w) {i : Nat} {p : Wb} (hp : AA[i]? = some p) : w.cell? ⟨p.1, 3, none⟩ = some (.int .i64 p.2.2.vain) := by rw [Lib.cell_of_heap (h.wait hp).1]; rfl
theorem Sw.w4 (h : Sw B c x sl n K q now cur ii tt LL AA w) {i : Nat} {p : Wb} (hp : AA[i]? = some p) : w.cell? ⟨p.1, 4, none⟩ = some (.bool p.2.2.over) := by rw [Lib.cell_of_heap (h.wait hp).1]; rfl
theorem Sw.w5 (h : Sw B c x sl n K q now cur ii tt LL AA w) {i : Nat} {p : Wb} (hp : AA[i]? = some p) : w.cell? ⟨p.1, 5, none⟩ = some (.int .i64 p.2.2.put) := by rw [Lib.cell_of_heap (h.wait hp).1]; rfl
theorem Sw.w6 (h : Sw B c x sl n K q now cur ii tt LL AA w) {i : Nat} {p : Wb} (hp : AA[i]? = some p) : w.cell? ⟨p.1, 6, none⟩ = some (.int .i64 p.2.2.old) := by rw [Lib.cell_of_heap (h.wait hp).1]; rfl
set_option maxRecDepth 100000 in
set_option maxHeartbeats 4000000 in
theorem marks_any (h : Sw B c x sl n K q now cur ii tt LL AA w) {j : Nat} {p : Lb} (hp : LL[j]? = some p) (hL : LL.length < 1999999999999) (hm : ∀ (i : Nat) (o : Lb), LL[i]? = some o → 0 ≤ o.2.2.begun → o.2.2.begun < p.2.2.first → o.2.2.mark ≤ p.2.2.mark) (h1 : 1 ≤ p.2.2.mark) :
    Calls Try.prog 47 #[.pointer (some ⟨c, 0, none⟩), .pointer (some ⟨p.1, 0, none⟩)] w fun r w' => r = .returned (.bool true) ∧ ∃ m, w' = w.drewN m := by
  obtain ⟨g, hg, _⟩ := h.lrow hp
  have c4 := h.c4
  rw [hg] at c4
  have HR := hide' (fun (i : Nat) (o : Lb) (ho : LL[i]? = some o) => show w.cell? ⟨g, i, none⟩ = some (.pointer (some ⟨o.1, 0, none⟩)) ∧ w.cell? ⟨o.1, 3, none⟩ = some (.int .i64 o.2.2.begun) ∧ w.cell? ⟨o.1, 5, none⟩ = some (.int .i64 o.2.2.mark) from by
    obtain ⟨g', hg', hc⟩ := h.lrow ho
    rw [hg] at hg'
    cases hg'
    exact ⟨hc, h.l3 ho, h.l5 ho⟩)
  have HP2 := hide' (h.l2 hp)
  have HP5 := hide' (h.l5 hp)
  have HC4 := hide' c4
  have HM := hide' hm
  have HL := hide' hL
  have dm : decide (1 ≤ p.2.2.mark) = true := decide_eq_true h1
  clear h hp hL hm h1 hg c4
  generalize p.2.2.first = fi at *
  generalize p.2.2.mark = mk at *
  generalize p.1 = pb at *
  go_enter Try.func47, Try.ntmps47
  go_wp2_with fail
  go_loopw [5] (fun i wx => ∃ (k : Nat), k ≤ LL.length ∧ i = .int .i64 (k : Int) ∧ ∃ m, wx = w.drewN m) (fun i _ => LL.length - (intOf i).toNat)
  case atStart => exact ⟨0, by omega, rfl, 0, rfl⟩
  case round =>
    obtain ⟨k, hk, rfl, m, hwx⟩ := hrel
    have c4 := HC4.out
    have p2 := HP2.out
    have p5 := HP5.out
    have HW := hide' hwx
    replace c4 : wr.cell? ⟨c, 4, none⟩ = some (.slice (some ⟨g, 0, none⟩) LL.length q.lc) := by rw [hwx]; exact c4
    replace p2 : wr.cell? ⟨pb, 2, none⟩ = some (.int .i64 fi) := by rw [hwx]; exact p2
    replace p5 : wr.cell? ⟨pb, 5, none⟩ = some (.int .i64 mk) := by rw [hwx]; exact p5
    by_cases hlt : k < LL.length
    · have hlt' : (k : Int) < (LL.length : Int) := by omega
      obtain ⟨o, ho⟩ : ∃ o, LL[k]? = some o := ⟨_, List.getElem?_eq_getElem hlt⟩
      obtain ⟨e1, e2, e3⟩ := HR.out k o ho
      replace e1 : wr.cell? ⟨g, k, none⟩ = some (.pointer (some ⟨o.1, 0, none⟩)) := by rw [hwx]; exact e1
      replace e2 : wr.cell? ⟨o.1, 3, none⟩ = some (.int .i64 o.2.2.begun) := by rw [hwx]; exact e2
      replace e3 : wr.cell? ⟨o.1, 5, none⟩ = some (.int .i64 o.2.2.mark) := by rw [hwx]; exact e3
      have HMo := hide' (HM.out k o ho)
      have Hwk : Hid (wrap64 ((k : Int) + 1) = (k : Int) + 1) := hide' (by have := HL.out; unfold wrap64; omega)
      clear ho hwx
      generalize o.2.2.begun = bg at *
      generalize o.2.2.mark = om at *
      generalize o.1 = ob at *
      by_cases a1 : 0 ≤ bg
      · have d1 : decide (0 ≤ bg) = true := decide_eq_true a1
        by_cases a2 : bg < fi
        · have d2 : decide (bg < fi) = true := decide_eq_true a2
          have d3 : decide (mk < om) = false := decide_eq_false (by have := HMo.out a1 a2; omega)
          clear a1 a2 HMo
          go_wp2_with fail
          go_quiet (fail)
          go_wp2
          exact ⟨⟨k + 1, by omega, by rw [Hwk.out]; go_num, m + nq, by rw [HW.out, World.drewN_drewN]⟩, msr' hlt _ Hwk.out⟩
        · have d2 : decide (bg < fi) = false := decide_eq_false a2
          clear a1 a2 HMo
          go_wp2_with fail
          go_quiet (fail)
          go_wp2
          exact ⟨⟨k + 1, by omega, by rw [Hwk.out]; go_num, m + nq, by rw [HW.out, World.drewN_drewN]⟩, msr' hlt _ Hwk.out⟩
      · have d1 : decide (0 ≤ bg) = false := decide_eq_false a1
        clear a1 HMo
        go_wp2_with fail
        go_quiet (fail)
        go_wp2
        exact ⟨⟨k + 1, by omega, by rw [Hwk.out]; go_num, m + nq, by rw [HW.out, World.drewN_drewN]⟩, msr' hlt _ Hwk.out⟩
    · obtain rfl : k = LL.length := by omega
      clear hwx
      go_wp2
      go_ret
      exact ⟨rfl, m, HW.out⟩
theorem Sw.icell (h : Sw B c x sl n K q now cur ii tt LL AA w) {k : Nat} {v : Int} (hv : ii[k]? = some v) : w.cell? ⟨q.gi, k, none⟩ = some (.int .i64 v) := by
  have := row_cell h.ri k (.int .i64 v) (by rw [ivs, List.getElem?_map, hv]; rfl)
  rw [show (⟨q.gi, 0, none⟩ : Addr).add k = ⟨q.gi, k, none⟩ by unfold Addr.add; split <;> simp_all] at this
  exact this
theorem Sw.tcell (h : Sw B c x sl n K q now cur ii tt LL AA w) {k : Nat} {v : Int} (hv : tt[k]? = some v) : w.cell? ⟨q.gt, k, none⟩ = some (.int .i64 v) := by
  have := row_cell h.rt k (.int .i64 v) (by rw [ivs, List.getElem?_map, hv]; rfl)
  rw [show (⟨q.gt, 0, none⟩ : Addr).add k = ⟨q.gt, k, none⟩ by unfold Addr.add; split <;> simp_all] at this
  exact this
set_option maxRecDepth 100000 in
set_option maxHeartbeats 4000000 in
theorem held_any (h : Sw B c x sl n K q now cur ii tt LL AA w) {j k i : Nat} {p : Wb} {o : Lb} (hp : AA[j]? = some p) (hk : k < n) (hi : ii[k]? = some (i : Int)) (ho : LL[i]? = some o) (h1 : 0 ≤ o.2.2.begun) (h2 : o.2.2.first < p.2.2.first) :
    Calls Try.prog 49 #[.pointer (some ⟨c, 0, none⟩), .pointer (some ⟨p.1, 0, none⟩), .int .i64 (k : Nat)] w fun r w' => r = .returned (.bool true) ∧ ∃ m, w' = w.drewN m := by
  obtain ⟨g, hg, e1⟩ := h.lrow ho
  have c4 := h.c4
  rw [hg] at c4
  have c5 := h.c5
  have e0 := h.icell hi
  have e2 := h.l2 ho
  have e3 := h.l3 ho
  have p1 := h.w1 hp
  have hk' : (k : Int) < (n : Int) := by omega
  have hil : (i : Int) < (LL.length : Int) := by have := (List.getElem?_eq_some_iff.1 ho).1; omega
  have d1 : decide (0 ≤ o.2.2.begun) = true := decide_eq_true h1
  have d2 : decide (o.2.2.first < p.2.2.first) = true := decide_eq_true h2
  clear h hp hi ho h1 h2 hg
  generalize o.2.2.begun = bg at *
  generalize o.2.2.first = fo at *
  generalize p.2.2.first = fp at *
  generalize LL.length = L at *
  generalize o.1 = ob at *
  generalize p.1 = pb at *
  go_enter Try.func49, Try.ntmps49
  go_wp2_with fail
  go_quiet (fail)
  go_wp2
  go_ret
  exact ⟨rfl, _, rfl⟩
end Wt
end Go.Proofs.Ytbbopkhgmgdlfaa
set_option linter.unusedVariables false
set_option linter.unusedSimpArgs false
namespace Go.Proofs.Ytbbopkhgmgdlfaa
open Go.RowKit
namespace Wt
open M F V
variable {B c x sl n K : Nat} {q : Pl} {now cur : Int} {ii tt : List Int} {LL : List Lb} {AA : List Wb} {w w' : World}
set_option maxRecDepth 100000 in
set_option maxHeartbeats 2000000 in
theorem ready_out {b e f n : Nat} {si nx : Int} (hw : Gr b x e f n si nx w) (hi : isl n nx = false) : Calls Try.prog 28 #[.pointer (some ⟨b, 0, none⟩)] w fun r w' => r = .returned (.bool true) ∧ ∃ k, w' = w.drewN k := by
  have c5 := hw.c5
  have HC := hide' (fun q => has_any nx (show Rw b x e f n (w.drewN q) from hw.rw.block rfl))
  rw [hi] at HC
  clear hw hi
  go_enter Try.func28, Try.ntmps28
  go_wp2_with fail
  go_quiet ((go_at_call 52; exact Calls.quiet_of_same (HC.out _)))
  go_wp2
  go_ret
  exact ⟨rfl, _, rfl⟩
theorem drewN_more {w wx : World} {n : Nat} (h : ∃ k, wx = (w.drewN n).drewN k) : ∃ j, wx = w.drewN j := by
  obtain ⟨k, e⟩ := h
  exact ⟨_, by rw [e, World.drewN_drewN]⟩
set_option maxRecDepth 100000 in
set_option maxHeartbeats 4000000 in
theorem passed_any (h : Sw B c x sl n K q now cur ii tt LL AA w) {j : Nat} {p : Wb} (hp : AA[j]? = some p) (hL : LL.length < 1999999999999) (hm : ∀ (i : Nat) (o : Lb), LL[i]? = some o → o.2.2.left < 0 → ¬ (0 ≤ o.2.2.begun ∧ o.2.2.begun < p.2.2.first) ∧ o.2.2.read ≠ p.2.2.old) (hn : n ≤ 16) (hx : p.2.2.nx = (n : Nat)) (hs : p.2.2.steps = 1 + (n : Int) + p.2.2.vain) (hv : 0 ≤ p.2.2.vain ∧ p.2.2.vain < 1999999999999) :
    Calls Try.prog 50 #[.pointer (some ⟨c, 0, none⟩), .pointer (some ⟨p.1, 0, none⟩)] w fun r w' => r = .returned (.bool true) ∧ ∃ m, w' = w.drewN m := by
  have hgr : Gr p.2.1 x 1 2 n p.2.2.si p.2.2.nx w := (h.gra hp).1
  have hno : isl n p.2.2.nx = false := decide_eq_false (by rw [hx]; omega)
  have HA : Hid (∀ m, Calls Try.prog 27 #[.pointer (some ⟨p.2.1, 0, none⟩)] (w.drewN m) fun r w' => r = .returned (.int .i64 (-1)) ∧ ∃ k, w' = (w.drewN m).drewN k) := hide' (fun m => by
    have := at_any (show Gr p.2.1 x 1 2 n p.2.2.si p.2.2.nx (w.drewN m) from hgr)
    rw [show gat n p.2.2.nx = -1 from if_neg (by rw [hno]; decide)] at this
    exact this)
  have HB : Hid (∀ m, Calls Try.prog 28 #[.pointer (some ⟨p.2.1, 0, none⟩)] (w.drewN m) fun r w' => r = .returned (.bool true) ∧ ∃ k, w' = (w.drewN m).drewN k) := hide' (fun m => ready_out (show Gr p.2.1 x 1 2 n p.2.2.si p.2.2.nx (w.drewN m) from hgr) hno)
  have HQ : Hid (LL.length ≠ 0 → ∃ g, q.lo = some ⟨g, 0, none⟩) := hide' (fun hz => by
    obtain ⟨o, ho⟩ : ∃ o, LL[0]? = some o := ⟨_, List.getElem?_eq_getElem (by omega)⟩
    obtain ⟨g, hg, _⟩ := h.lrow ho
    exact ⟨g, hg⟩)
  have HR := hide' (fun (i : Nat) (o : Lb) (ho : LL[i]? = some o) => show (∃ g, q.lo = some ⟨g, 0, none⟩ ∧ w.cell? ⟨g, i, none⟩ = some (.pointer (some ⟨o.1, 0, none⟩))) ∧ w.cell? ⟨o.1, 3, none⟩ = some (.int .i64 o.2.2.begun) ∧ w.cell? ⟨o.1, 4, none⟩ = some (.int .i64 o.2.2.left) ∧ w.cell? ⟨o.1, 6, none⟩ = some (.int .i64 o.2.2.read) from ⟨h.lrow ho, h.l3 ho, h.l4 ho, h.l6 ho⟩)
  have HC := hide' (And.intro h.c4 (And.intro h.c2 (And.intro (h.w0 hp) (And.intro (h.w1 hp) (And.intro (h.w2 hp) (And.intro (h.w3 hp) (h.w6 hp)))))))
  have HM := hide' hm
  have HL := hide' hL
  have Hw1 : Hid (IntKind.wrap .i64 (1 + (n : Int)) = 1 + (n : Int)) := hide' (by rw [IntKind.wrap_i64]; omega)
  have Hw2 : Hid (IntKind.wrap .i64 (1 + (n : Int) + p.2.2.vain) = 1 + (n : Int) + p.2.2.vain) := hide' (by rw [IntKind.wrap_i64]; omega)
  have Hs := hide' hs
  clear h hp hL hm hgr hno hx hs hv hn
  generalize p.2.2.first = fi at *
  generalize p.2.2.old = od at *
  generalize p.2.2.steps = sp at *
  generalize p.2.2.vain = va at *
  generalize p.2.1 = gb at *
  generalize p.1 = pb at *
  go_enter Try.func50, Try.ntmps50
  go_wp2_with fail
  go_loopw [5] (fun i wx => ∃ (k : Nat), k ≤ LL.length ∧ i = .int .i64 (k : Int) ∧ ∃ m, wx = w.drewN m) (fun i _ => LL.length - (intOf i).toNat)
  case atStart => exact ⟨0, by omega, rfl, 0, rfl⟩
  case round =>
    obtain ⟨k, hk, rfl, m, hwx⟩ := hrel
    obtain ⟨c4, c2, a0, a1, a2, a3, a6⟩ := HC.out
    have HW := hide' hwx
    replace c4 : wr.cell? ⟨c, 4, none⟩ = some (.slice q.lo LL.length q.lc) := by rw [hwx]; exact c4
    replace c2 : wr.cell? ⟨c, 2, none⟩ = some (.int .i64 (n : Nat)) := by rw [hwx]; exact c2
    replace a0 : wr.cell? ⟨pb, 0, none⟩ = some (.pointer (some ⟨gb, 0, none⟩)) := by rw [hwx]; exact a0
    replace a1 : wr.cell? ⟨pb, 1, none⟩ = some (.int .i64 fi) := by rw [hwx]; exact a1
    replace a2 : wr.cell? ⟨pb, 2, none⟩ = some (.int .i64 sp) := by rw [hwx]; exact a2
    replace a3 : wr.cell? ⟨pb, 3, none⟩ = some (.int .i64 va) := by rw [hwx]; exact a3
    replace a6 : wr.cell? ⟨pb, 6, none⟩ = some (.int .i64 od) := by rw [hwx]; exact a6
    by_cases hlt : k < LL.length
    · have hlt' : (k : Int) < (LL.length : Int) := by omega
      obtain ⟨o, ho⟩ : ∃ o, LL[k]? = some o := ⟨_, List.getElem?_eq_getElem hlt⟩
      obtain ⟨⟨g, hg, e1⟩, e3, e4, e6⟩ := HR.out k o ho
      rw [hg] at c4
      replace e1 : wr.cell? ⟨g, k, none⟩ = some (.pointer (some ⟨o.1, 0, none⟩)) := by rw [hwx]; exact e1
      replace e3 : wr.cell? ⟨o.1, 3, none⟩ = some (.int .i64 o.2.2.begun) := by rw [hwx]; exact e3
      replace e4 : wr.cell? ⟨o.1, 4, none⟩ = some (.int .i64 o.2.2.left) := by rw [hwx]; exact e4
      replace e6 : wr.cell? ⟨o.1, 6, none⟩ = some (.int .i64 o.2.2.read) := by rw [hwx]; exact e6
      have HMo := hide' (HM.out k o ho)
      have Hwk : Hid (wrap64 ((k : Int) + 1) = (k : Int) + 1) := hide' (by have := HL.out; unfold wrap64; omega)
      clear ho hwx hg c2 a0 a2 a3
      generalize o.2.2.begun = bg at *
      generalize o.2.2.left = lf at *
      generalize o.2.2.read = rd at *
      generalize o.1 = ob at *
      by_cases b1 : lf < 0
      · have d1 : decide (lf < 0) = true := decide_eq_true b1
        obtain ⟨z1, z2⟩ := HMo.out b1
        have d4 : (rd == od) = false := by rw [beq_eq_false_iff_ne]; exact z2
        clear HMo z2 b1
        by_cases b2 : 0 ≤ bg
        · have d2 : decide (0 ≤ bg) = true := decide_eq_true b2
          have d3 : decide (bg < fi) = false := decide_eq_false (fun z => z1 ⟨b2, z⟩)
          clear b2 z1
          go_wp2_with fail
          go_quiet (fail)
          go_wp2
          exact ⟨⟨k + 1, by omega, by rw [Hwk.out]; go_num, m + nq, by rw [HW.out, World.drewN_drewN]⟩, msr' hlt _ Hwk.out⟩
        · have d2 : decide (0 ≤ bg) = false := decide_eq_false b2
          clear b2 z1
          go_wp2_with fail
          go_quiet (fail)
          go_wp2
          exact ⟨⟨k + 1, by omega, by rw [Hwk.out]; go_num, m + nq, by rw [HW.out, World.drewN_drewN]⟩, msr' hlt _ Hwk.out⟩
      · have d1 : decide (lf < 0) = false := decide_eq_false b1
        clear b1 HMo
        go_wp2_with fail
        go_quiet (fail)
        go_wp2
        exact ⟨⟨k + 1, by omega, by rw [Hwk.out]; go_num, m + nq, by rw [HW.out, World.drewN_drewN]⟩, msr' hlt _ Hwk.out⟩
    · obtain rfl : k = LL.length := by omega
      have HA' : Hid (∀ k, Calls Try.prog 27 #[.pointer (some ⟨gb, 0, none⟩)] (wr.drewN k) fun r w' => r = .returned (.int .i64 (-1)) ∧ ∃ j, w' = (wr.drewN k).drewN j) := hide' (fun k => by
        have := HA.out (m + k)
        rw [← World.drewN_drewN, ← hwx] at this
        exact this)
      have HB' : Hid (∀ k, Calls Try.prog 28 #[.pointer (some ⟨gb, 0, none⟩)] (wr.drewN k) fun r w' => r = .returned (.bool true) ∧ ∃ j, w' = (wr.drewN k).drewN j) := hide' (fun k => by
        have := HB.out (m + k)
        rw [← World.drewN_drewN, ← hwx] at this
        exact this)
      have ds : (sp == 1 + (n : Int) + va) = true := by rw [Hs.out]; exact beq_self_eq_true _
      have w1 := Hw1.out
      have w2 := Hw2.out
      clear hwx HA HB HR HM HC HQ Hs Hw1 Hw2 a1 a6
      go_wp2_with fail
      go_quiet (first | (go_at_call 27; refine (HA'.out _).mono ?_; rintro r wz ⟨rfl, hz⟩; exact ⟨rfl, drewN_more hz⟩) | (go_at_call 28; refine (HB'.out _).mono ?_; rintro r wz ⟨rfl, hz⟩; exact ⟨rfl, drewN_more hz⟩))
      go_wp2
      go_ret
      exact ⟨rfl, m + nq, by rw [HW.out, World.drewN_drewN]⟩
end Wt
end Go.Proofs.Ytbbopkhgmgdlfaa
set_option linter.unusedVariables false
set_option linter.unusedSimpArgs false
namespace Go.Proofs.Ytbbopkhgmgdlfaa
open Go.RowKit
namespace Wt
open M F V
variable {B c x sl n K : Nat} {q : Pl} {now cur : Int} {ii tt : List Int} {LL : List Lb} {AA : List Wb} {w w' : World}
variable {D : Nat → Prop} {ws ws' : List Int} {tr tr' : List Ac} {bad bad' : Nat}
theorem map_set_same {α β : Type} {l : List α} {j : Nat} {p p' : α} {f : α → β} (hp : l[j]? = some p) (e : f p' = f p) : (l.set j p').map f = l.map f := by
  apply List.ext_getElem?
  intro k
  have hlt := (List.getElem?_eq_some_iff.1 hp).1
  rw [List.getElem?_map, List.getElem?_map]
  by_cases h : j = k
  · subst h
    rw [List.getElem?_set_self hlt, hp]
    simp [e]
  · rw [List.getElem?_set_ne h]
/-- the block and the rows, not the families -/
theorem Sw.base {S : Nat → Prop} (h : Sw B c x sl n K q now cur ii tt LL AA w) (t : Turn S w w') (hS : ∀ (j : Nat) (cs : Array Value) (T : TypeId), w.heap[j]? = some (.cells cs T (0, 0)) → S j → T ≠ 67 ∧ T ≠ 90 ∧ T ≠ 103 ∧ T ≠ 109) (hi : ¬ S q.gi) (ht : ¬ S q.gt) :
    w'.heap[c]? = w.heap[c]? ∧ Sl sl x 1 2 n w' ∧ w'.ownsRow B 103 1 (.slice q.lo LL.length q.lc) LL.length ((LL.map (·.1)).map ptr) ∧ w'.ownsRow B 109 1 (.slice q.wo AA.length q.wc) AA.length ((AA.map (·.1)).map ptr) ∧ w'.ownsRow B 3 1 (.slice (some ⟨q.gi, 0, none⟩) n q.ic) n (ivs ii) ∧ w'.ownsRow B 3 1 (.slice (some ⟨q.gt, 0, none⟩) K q.tc) K (ivs tt) := by
  refine ⟨t.block c (lt_of_heap h.hc) (fun z => (hS _ _ _ h.hc z).1 rfl), h.hsl.kept t (fun z => (hS _ _ _ h.hsl z).2.1 rfl), t.row h.rl (fun j hj z => ?_), t.row h.rw (fun j hj z => ?_), t.row h.ri (fun j hj z => ?_), t.row h.rt (fun j hj z => ?_)⟩
  · obtain ⟨_, _, cs, h'⟩ := row_atk h.rl (own_at hj); exact (hS _ _ _ h' z).2.2.1 rfl
  · obtain ⟨_, _, cs, h'⟩ := row_atk h.rw (own_at hj); exact (hS _ _ _ h' z).2.2.2 rfl
  · obtain ⟨a, ha, e⟩ := own_at hj
    cases ha
    subst e
    exact hi z
  · obtain ⟨a, ha, e⟩ := own_at hj
    cases ha
    subst e
    exact ht z
theorem Sw.gik (h : Sw B c x sl n K q now cur ii tt LL AA w) : ∃ cs, w.heap[q.gi]? = some (.cells cs 3 (0, 0)) := by
  obtain ⟨_, _, cs, h'⟩ := row_atk h.ri (j := q.gi) ⟨_, rfl, rfl⟩; exact ⟨cs, h'⟩
theorem Sw.gtk (h : Sw B c x sl n K q now cur ii tt LL AA w) : ∃ cs, w.heap[q.gt]? = some (.cells cs 3 (0, 0)) := by
  obtain ⟨_, _, cs, h'⟩ := row_atk h.rt (j := q.gt) ⟨_, rfl, rfl⟩; exact ⟨cs, h'⟩
/-- a cell of a life is written -/
theorem Sw.setLife (h : Sw B c x sl n K q now cur ii tt LL AA w) {j : Nat} {p : Lb} (p' : Lb) (hp : LL[j]? = some p) (off : Nat) (v : Value) (h1 : p'.1 = p.1) (h2 : p'.2.1 = p.2.1) (h3 : p'.2.2.slot = p.2.2.slot ∧ p'.2.2.md = p.2.2.md ∧ p'.2.2.sn = p.2.2.sn) (hc : (lic p).setIfInBounds off v = lic p') : Sw B c x sl n K q now cur ii tt (LL.set j p') AA (w.setCell ⟨p.1, off, none⟩ v) := by
  have t := turn_b p.1 off v w
  have hb := (h.life hp).1
  have far : ∀ (k : Nat) (cs : Array Value) (T : TypeId), w.heap[k]? = some (.cells cs T (0, 0)) → T ≠ 105 → ¬ k = p.1 := fun k cs T hk hT => cells_ne hk hb hT
  obtain ⟨ci, hci⟩ := h.gik
  obtain ⟨ct, hct⟩ := h.gtk
  obtain ⟨b1, b2, b3, b4, b5, b6⟩ := h.base t (fun k cs T hk z => by
    by_cases e : T = 105
    · subst e; decide
    · exact absurd z (far k cs T hk e)) (far _ _ _ hci (by decide)) (far _ _ _ hct (by decide))
  refine ⟨by rw [List.length_set]; exact b1.trans h.hc, b2, by rw [List.length_set, map_set_same hp h1]; exact b3, b4, b5, b6, ?_, ?_, h.fw.kept t (fun k cs hk => far k cs _ hk (by decide)), h.fg.kept t (fun k cs hk => far k cs _ hk (by decide)), h.ne, h.lb⟩
  · rw [List.map_set, show foL p' = (p.1, lic p') by unfold foL; rw [h1]]
    exact h.fl.set (p := foL p) t (by rw [List.getElem?_map, hp]; rfl) (fun k cs _ z => z) (by have := set_block (off := off) (v := v) hb; rw [hc] at this; exact this)
  · rw [map_set_same hp (by unfold foS; rw [h2, h3.1, h3.2.1, h3.2.2])]
    exact h.fs.kept t (fun k cs hk => far k cs _ hk (by decide))
/-- a cell of a wait is written -/
theorem Sw.setWait (h : Sw B c x sl n K q now cur ii tt LL AA w) {j : Nat} {p : Wb} (p' : Wb) (hp : AA[j]? = some p) (off : Nat) (v : Value) (h1 : p'.1 = p.1) (h2 : p'.2.1 = p.2.1) (h3 : p'.2.2.si = p.2.2.si ∧ p'.2.2.nx = p.2.2.nx) (hc : (wac p).setIfInBounds off v = wac p') : Sw B c x sl n K q now cur ii tt LL (AA.set j p') (w.setCell ⟨p.1, off, none⟩ v) := by
  have t := turn_b p.1 off v w
  have hb := (h.wait hp).1
  have far : ∀ (k : Nat) (cs : Array Value) (T : TypeId), w.heap[k]? = some (.cells cs T (0, 0)) → T ≠ 108 → ¬ k = p.1 := fun k cs T hk hT => cells_ne hk hb hT
  obtain ⟨ci, hci⟩ := h.gik
  obtain ⟨ct, hct⟩ := h.gtk
  obtain ⟨b1, b2, b3, b4, b5, b6⟩ := h.base t (fun k cs T hk z => by
    by_cases e : T = 108
    · subst e; decide
    · exact absurd z (far k cs T hk e)) (far _ _ _ hci (by decide)) (far _ _ _ hct (by decide))
  refine ⟨by rw [List.length_set]; exact b1.trans h.hc, b2, b3, by rw [List.length_set, map_set_same hp h1]; exact b4, b5, b6, h.fl.kept t (fun k cs hk => far k cs _ hk (by decide)), h.fs.kept t (fun k cs hk => far k cs _ hk (by decide)), ?_, ?_, h.ne, h.lb⟩
  · rw [List.map_set, show foW p' = (p.1, wac p') by unfold foW; rw [h1]]
    exact h.fw.set (p := foW p) t (by rw [List.getElem?_map, hp]; rfl) (fun k cs _ z => z) (by have := set_block (off := off) (v := v) hb; rw [hc] at this; exact this)
  · rw [map_set_same hp (by unfold foG; rw [h2, h3.1, h3.2])]
    exact h.fg.kept t (fun k cs hk => far k cs _ hk (by decide))
theorem mem_kw (hM : Mem D B x ws tr bad w) {j : Nat} {cs : Array Value} {T : TypeId} (hj : w.heap[j]? = some (.cells cs T (0, 0))) (q : D j) : ¬ KW T := by
  obtain ⟨cs', t', h1, h2⟩ := hM.kind q
  rw [hj] at h1
  cases h1
  rcases h2 with rfl | rfl | rfl <;> decide
/-- a call on the memory alone -/
theorem Sw.to (h : Sw B c x sl n K q now cur ii tt LL AA w) (hM : Mem D B x ws tr bad w) (hi : ¬ D q.gi) (ht : ¬ D q.gt) (k : To D B x ws' tr' bad' w w') : Sw B c x sl n K q now cur ii tt LL AA w' := by
  obtain ⟨D', m', t, s⟩ := k
  exact h.kept t (fun j cs T hj z => mem_kw hM hj z) hi ht
/-- a call on the memory and a section -/
theorem Sw.secTo (h : Sw B c x sl n K q now cur ii tt LL AA w) (hM : Mem D B x ws tr bad w) (hi : ¬ D q.gi) (ht : ¬ D q.gt) {j : Nat} {p : Lb} (p' : Lb) (hp : LL[j]? = some p) (h1 : p'.1 = p.1) (h2 : p'.2.1 = p.2.1) (hl : lic p' = lic p) (k : BTo D B x p.2.1 ws' tr' bad' (scc x 1 2 n p'.2.2.slot p'.2.2.md p'.2.2.sn) 115 w w') : Sw B c x sl n K q now cur ii tt (LL.set j p') AA w' := by
  obtain ⟨D', hm', hw, t, s⟩ := k
  have hb := (h.sec hp).1
  have far : ∀ (k : Nat) (cs : Array Value) (T : TypeId), w.heap[k]? = some (.cells cs T (0, 0)) → KW T → T ≠ 115 → ¬ (D k ∨ k = p.2.1) := fun k cs T hk hK hT z => by
    rcases z with z | z
    · exact mem_kw hM hk z hK
    · exact cells_ne hk hb hT z
  obtain ⟨ci, hci⟩ := h.gik
  obtain ⟨ct, hct⟩ := h.gtk
  obtain ⟨b1, b2, b3, b4, b5, b6⟩ := h.base t (fun k cs T hk z => by
    by_cases e : T = 67 ∨ T = 90 ∨ T = 103 ∨ T = 109
    · exact absurd z (far k cs T hk (by rcases e with rfl | rfl | rfl | rfl <;> decide) (by rcases e with rfl | rfl | rfl | rfl <;> decide))
    · exact ⟨fun z => e (.inl z), fun z => e (.inr (.inl z)), fun z => e (.inr (.inr (.inl z))), fun z => e (.inr (.inr (.inr z)))⟩) (fun z => by rcases z with z | z; exact hi z; exact cells_ne hci hb (by decide) z) (fun z => by rcases z with z | z; exact ht z; exact cells_ne hct hb (by decide) z)
  refine ⟨by rw [List.length_set]; exact b1.trans h.hc, b2, by rw [List.length_set, map_set_same hp h1]; exact b3, b4, b5, b6, ?_, ?_, h.fw.kept t (fun k cs hk => far k cs _ hk (by decide) (by decide)), h.fg.kept t (fun k cs hk => far k cs _ hk (by decide) (by decide)), h.ne, h.lb⟩
  · rw [map_set_same hp (by unfold foL; rw [h1, hl])]
    exact h.fl.kept t (fun k cs hk => far k cs _ hk (by decide) (by decide))
  · rw [List.map_set, show foS x n p' = (p.2.1, scc x 1 2 n p'.2.2.slot p'.2.2.md p'.2.2.sn) by unfold foS; rw [h2]]
    exact h.fs.set (p := foS x n p) t (by rw [List.getElem?_map, hp]; rfl) (fun k cs hk z => by rcases z with z | z; exact absurd (by decide) (mem_kw hM hk z); exact z) hw
/-- a call on the memory and a period -/
theorem Sw.graTo (h : Sw B c x sl n K q now cur ii tt LL AA w) (hM : Mem D B x ws tr bad w) (hi : ¬ D q.gi) (ht : ¬ D q.gt) {j : Nat} {p : Wb} (p' : Wb) (hp : AA[j]? = some p) (h1 : p'.1 = p.1) (h2 : p'.2.1 = p.2.1) (hl : wac p' = wac p) (k : BTo D B x p.2.1 ws' tr' bad' (grc x 1 2 n p'.2.2.si p'.2.2.nx) 113 w w') : Sw B c x sl n K q now cur ii tt LL (AA.set j p') w' := by
  obtain ⟨D', hm', hw, t, s⟩ := k
  have hb := (h.gra hp).1
  have far : ∀ (k : Nat) (cs : Array Value) (T : TypeId), w.heap[k]? = some (.cells cs T (0, 0)) → KW T → T ≠ 113 → ¬ (D k ∨ k = p.2.1) := fun k cs T hk hK hT z => by
    rcases z with z | z
    · exact mem_kw hM hk z hK
    · exact cells_ne hk hb hT z
  obtain ⟨ci, hci⟩ := h.gik
  obtain ⟨ct, hct⟩ := h.gtk
  obtain ⟨b1, b2, b3, b4, b5, b6⟩ := h.base t (fun k cs T hk z => by
    by_cases e : T = 67 ∨ T = 90 ∨ T = 103 ∨ T = 109
    · exact absurd z (far k cs T hk (by rcases e with rfl | rfl | rfl | rfl <;> decide) (by rcases e with rfl | rfl | rfl | rfl <;> decide))
    · exact ⟨fun z => e (.inl z), fun z => e (.inr (.inl z)), fun z => e (.inr (.inr (.inl z))), fun z => e (.inr (.inr (.inr z)))⟩) (fun z => by rcases z with z | z; exact hi z; exact cells_ne hci hb (by decide) z) (fun z => by rcases z with z | z; exact ht z; exact cells_ne hct hb (by decide) z)
  refine ⟨by rw [List.length_set]; exact b1.trans h.hc, b2, b3, by rw [List.length_set, map_set_same hp h1]; exact b4, b5, b6, h.fl.kept t (fun k cs hk => far k cs _ hk (by decide) (by decide)), h.fs.kept t (fun k cs hk => far k cs _ hk (by decide) (by decide)), ?_, ?_, h.ne, h.lb⟩
  · rw [map_set_same hp (by unfold foW; rw [h1, hl])]
    exact h.fw.kept t (fun k cs hk => far k cs _ hk (by decide) (by decide))
  · rw [List.map_set, show foG x n p' = (p.2.1, grc x 1 2 n p'.2.2.si p'.2.2.nx) by unfold foG; rw [h2]]
    exact h.fg.set (p := foG x n p) t (by rw [List.getElem?_map, hp]; rfl) (fun k cs hk z => by rcases z with z | z; exact absurd (by decide) (mem_kw hM hk z); exact z) hw
/-- in[k], turn[k] are written -/
theorem Sw.iput (h : Sw B c x sl n K q now cur ii tt LL AA w) {k : Nat} (hk : k < n) (v : Int) : Sw B c x sl n K q now cur (ii.set k v) tt LL AA (w.setCell ⟨q.gi, k, none⟩ (.int .i64 v)) := by
  have t := turn_b q.gi k (.int .i64 v) w
  obtain ⟨ci, hci⟩ := h.gik
  have far : ∀ (k : Nat) (cs : Array Value) (T : TypeId), w.heap[k]? = some (.cells cs T (0, 0)) → T ≠ 3 → ¬ k = q.gi := fun k cs T hk hT => cells_ne hk hci hT
  refine ⟨(t.block c (lt_of_heap h.hc) (far _ _ _ h.hc (by decide))).trans h.hc, h.hsl.kept t (far _ _ _ h.hsl (by decide)), t.row h.rl (fun j hj z => ?_), t.row h.rw (fun j hj z => ?_), row_put h.ri hk v, t.row h.rt (fun j hj z => ?_), h.fl.kept t (fun k cs hk => far k cs _ hk (by decide)), h.fs.kept t (fun k cs hk => far k cs _ hk (by decide)), h.fw.kept t (fun k cs hk => far k cs _ hk (by decide)), h.fg.kept t (fun k cs hk => far k cs _ hk (by decide)), h.ne, h.lb⟩
  · obtain ⟨_, _, cs, h'⟩ := row_atk h.rl (own_at hj); exact far _ _ _ h' (by decide) z
  · obtain ⟨_, _, cs, h'⟩ := row_atk h.rw (own_at hj); exact far _ _ _ h' (by decide) z
  · obtain ⟨a, ha, e⟩ := own_at hj
    cases ha
    subst e
    exact h.ne z.symm
theorem Sw.tput (h : Sw B c x sl n K q now cur ii tt LL AA w) {k : Nat} (hk : k < K) (v : Int) : Sw B c x sl n K q now cur ii (tt.set k v) LL AA (w.setCell ⟨q.gt, k, none⟩ (.int .i64 v)) := by
  have t := turn_b q.gt k (.int .i64 v) w
  obtain ⟨ci, hci⟩ := h.gtk
  have far : ∀ (k : Nat) (cs : Array Value) (T : TypeId), w.heap[k]? = some (.cells cs T (0, 0)) → T ≠ 3 → ¬ k = q.gt := fun k cs T hk hT => cells_ne hk hci hT
  refine ⟨(t.block c (lt_of_heap h.hc) (far _ _ _ h.hc (by decide))).trans h.hc, h.hsl.kept t (far _ _ _ h.hsl (by decide)), t.row h.rl (fun j hj z => ?_), t.row h.rw (fun j hj z => ?_), t.row h.ri (fun j hj z => ?_), row_put h.rt hk v, h.fl.kept t (fun k cs hk => far k cs _ hk (by decide)), h.fs.kept t (fun k cs hk => far k cs _ hk (by decide)), h.fw.kept t (fun k cs hk => far k cs _ hk (by decide)), h.fg.kept t (fun k cs hk => far k cs _ hk (by decide)), h.ne, h.lb⟩
  · obtain ⟨_, _, cs, h'⟩ := row_atk h.rl (own_at hj); exact far _ _ _ h' (by decide) z
  · obtain ⟨_, _, cs, h'⟩ := row_atk h.rw (own_at hj); exact far _ _ _ h' (by decide) z
  · obtain ⟨a, ha, e⟩ := own_at hj
    cases ha
    subst e
    exact h.ne z
/-- a cell of the scene is written: now, names -/
theorem Sw.cset (h : Sw B c x sl n K q now cur ii tt LL AA w) {now' cur' : Int} (off : Nat) (v : Value) (hc : (#[.pointer (some ⟨x, 0, none⟩), .pointer (some ⟨sl, 0, none⟩), .int .i64 (n : Nat), .int .i64 now, .slice q.lo LL.length q.lc, .slice (some ⟨q.gi, 0, none⟩) n q.ic, .slice q.wo AA.length q.wc, .slice (some ⟨q.gt, 0, none⟩) K q.tc, .int .i64 cur] : Array Value).setIfInBounds off v = #[.pointer (some ⟨x, 0, none⟩), .pointer (some ⟨sl, 0, none⟩), .int .i64 (n : Nat), .int .i64 now', .slice q.lo LL.length q.lc, .slice (some ⟨q.gi, 0, none⟩) n q.ic, .slice q.wo AA.length q.wc, .slice (some ⟨q.gt, 0, none⟩) K q.tc, .int .i64 cur']) : Sw B c x sl n K q now' cur' ii tt LL AA (w.setCell ⟨c, off, none⟩ v) := by
  have t := turn_b c off v w
  have far : ∀ (k : Nat) (cs : Array Value) (T : TypeId), w.heap[k]? = some (.cells cs T (0, 0)) → T ≠ 67 → ¬ k = c := fun k cs T hk hT => cells_ne hk h.hc hT
  obtain ⟨ci, hci⟩ := h.gik
  obtain ⟨ct, hct⟩ := h.gtk
  refine ⟨by have := set_block (off := off) (v := v) h.hc; rw [hc] at this; exact this, h.hsl.kept t (far _ _ _ h.hsl (by decide)), t.row h.rl (fun j hj z => ?_), t.row h.rw (fun j hj z => ?_), t.row h.ri (fun j hj z => ?_), t.row h.rt (fun j hj z => ?_), h.fl.kept t (fun k cs hk => far k cs _ hk (by decide)), h.fs.kept t (fun k cs hk => far k cs _ hk (by decide)), h.fw.kept t (fun k cs hk => far k cs _ hk (by decide)), h.fg.kept t (fun k cs hk => far k cs _ hk (by decide)), h.ne, h.lb⟩
  · obtain ⟨_, _, cs, h'⟩ := row_atk h.rl (own_at hj); exact far _ _ _ h' (by decide) z
  · obtain ⟨_, _, cs, h'⟩ := row_atk h.rw (own_at hj); exact far _ _ _ h' (by decide) z
  · obtain ⟨_, _, cs, h'⟩ := row_atk h.ri (own_at hj); exact far _ _ _ h' (by decide) z
  · obtain ⟨_, _, cs, h'⟩ := row_atk h.rt (own_at hj); exact far _ _ _ h' (by decide) z
theorem Sw.setNow (h : Sw B c x sl n K q now cur ii tt LL AA w) (v : Int) : Sw B c x sl n K q v cur ii tt LL AA (w.setCell ⟨c, 3, none⟩ (.int .i64 v)) := h.cset 3 _ rfl
theorem Sw.setCur (h : Sw B c x sl n K q now cur ii tt LL AA w) (v : Int) : Sw B c x sl n K q now v ii tt LL AA (w.setCell ⟨c, 8, none⟩ (.int .i64 v)) := h.cset 8 _ rfl
end Wt
end Go.Proofs.Ytbbopkhgmgdlfaa
set_option linter.unusedVariables false
set_option linter.unusedSimpArgs false
namespace Go.Proofs.Ytbbopkhgmgdlfaa
open Go.RowKit
namespace Wt
open M F V
variable {w0 : World} {c x sl n K N : Nat} {q : Pl} {now cur ep : Int} {ii tt : List Int} {LL : List Lb} {AA : List Wb} {w w' : World}
variable {D : Nat → Prop} {ws ws' : List Int} {tr tr' : List Ac} {bad bad' : Nat}
/-- the words -/
def Mm (n : Nat) (cur ep : Int) (wd : Nat → Int) : List Int := cur :: ep :: (List.range n).map wd
theorem mm_len (n : Nat) (cur ep : Int) (wd : Nat → Int) : (Mm n cur ep wd).length = n + 2 := by simp [Mm]
theorem rmap_set (f : Nat → Int) (n k : Nat) (v : Int) : ((List.range n).map f).set k v = (List.range n).map (fup f k v) := by
  apply List.ext_getElem?
  intro i
  by_cases h : k = i
  · subst h
    by_cases hl : k < n
    · rw [List.getElem?_set_self (by simpa using hl), List.getElem?_map, List.getElem?_range hl]
      simp [fup_self]
    · rw [List.getElem?_eq_none (by simp; omega), List.getElem?_eq_none (by simp; omega)]
  · rw [List.getElem?_set_ne h, List.getElem?_map, List.getElem?_map]
    by_cases hl : i < n
    · rw [List.getElem?_range hl]
      simp [fup_ne f v (fun z => h z.symm)]
    · rw [List.getElem?_eq_none (by simp; omega)]
      rfl
theorem rmap_at (f : Nat → Int) {n k : Nat} (h : k < n) : ((List.range n).map f)[k]? = some (f k) := by
  rw [List.getElem?_map, List.getElem?_range h]; rfl
theorem mm0 (n : Nat) {cur ep : Int} (wd : Nat → Int) (h : 0 ≤ cur) : er (Mm n cur ep wd) 0 = 0 ∧ std (Mm n cur ep wd) 0 = cur ∧ bd (Mm n cur ep wd) 0 = 0 ∧ ∀ v, put (Mm n cur ep wd) 0 v = Mm n v ep wd := by
  have h1 := er_ok (ws := Mm n cur ep wd) (k := 0) (by rw [mm_len]; omega) (by show cur ≠ P; unfold P; omega)
  exact ⟨h1.1, h1.2, bd_ok h1.1, fun v => put_ok (k := 0) h1.1⟩
theorem mm1 (n : Nat) {cur ep : Int} (wd : Nat → Int) (h : 0 ≤ ep) : er (Mm n cur ep wd) (1 : Nat) = 0 ∧ std (Mm n cur ep wd) (1 : Nat) = ep ∧ bd (Mm n cur ep wd) (1 : Nat) = 0 ∧ ∀ v, put (Mm n cur ep wd) (1 : Nat) v = Mm n cur v wd := by
  have h1 := er_ok (ws := Mm n cur ep wd) (k := 1) (by rw [mm_len]; omega) (by show ep ≠ P; unfold P; omega)
  exact ⟨h1.1, h1.2, bd_ok h1.1, fun v => put_ok (k := 1) h1.1⟩
theorem mmk {n k : Nat} (cur ep : Int) (wd : Nat → Int) (hk : k < n) (h : 0 ≤ wd k) : er (Mm n cur ep wd) (2 + k : Nat) = 0 ∧ std (Mm n cur ep wd) (2 + k : Nat) = wd k ∧ bd (Mm n cur ep wd) (2 + k : Nat) = 0 ∧ ∀ v, put (Mm n cur ep wd) (2 + k : Nat) v = Mm n cur ep (fup wd k v) := by
  have e : (Mm n cur ep wd).getD (2 + k) 0 = wd k := by
    rw [List.getD_eq_getElem?_getD, show (Mm n cur ep wd)[2 + k]? = ((List.range n).map wd)[k]? by rw [show 2 + k = k + 1 + 1 by omega]; rfl, rmap_at wd hk]; rfl
  have h1 := er_ok (ws := Mm n cur ep wd) (k := 2 + k) (by rw [mm_len]; omega) (by rw [e]; unfold P; omega)
  refine ⟨h1.1, h1.2.trans e, bd_ok h1.1, fun v => (put_ok (k := 2 + k) h1.1).trans ?_⟩
  rw [show 2 + k = k + 1 + 1 by omega]
  show cur :: ep :: ((List.range n).map wd).set k v = _
  rw [rmap_set]; rfl
/-- the memory and the scene -/
structure Ms (w0 : World) (c x sl n K : Nat) (now : Int) (D : Nat → Prop) (ws : List Int) (cur : Int) (ii tt : List Int) (q : Pl) (tr : List Ac) (LL : List Lb) (AA : List Wb) (w : World) : Prop where
  bel : Below w0.heap.size w0 w
  m : Mem D w0.heap.size x ws tr 0 w
  sw : Sw w0.heap.size c x sl n K q now cur ii tt LL AA w
  gi : ¬ D q.gi
  gt : ¬ D q.gt
theorem Ms.quiet (h : Ms w0 c x sl n K now D ws cur ii tt q tr LL AA w) (b : Below w.heap.size w w') : Ms w0 c x sl n K now D ws cur ii tt q tr LL AA w' := ⟨h.bel.trans (b.mono h.bel.size), h.m.below b, h.sw.below b, h.gi, h.gt⟩
theorem Ms.drewN (h : Ms w0 c x sl n K now D ws cur ii tt q tr LL AA w) (k : Nat) : Ms w0 c x sl n K now D ws cur ii tt q tr LL AA (w.drewN k) := h.quiet ⟨rfl, rfl, rfl, Nat.le_refl _, fun _ _ => rfl⟩
theorem Ms.gilt (h : Ms w0 c x sl n K now D ws cur ii tt q tr LL AA w) : q.gi < w.heap.size ∧ q.gt < w.heap.size := by
  obtain ⟨_, h1⟩ := h.sw.gik
  obtain ⟨_, h2⟩ := h.sw.gtk
  exact ⟨lt_of_heap h1, lt_of_heap h2⟩
theorem Ms.glow (h : Ms w0 c x sl n K now D ws cur ii tt q tr LL AA w) : w0.heap.size ≤ q.gi ∧ w0.heap.size ≤ q.gt :=
  ⟨(row_atk h.sw.ri (j := q.gi) ⟨_, rfl, rfl⟩).1, (row_atk h.sw.rt (j := q.gt) ⟨_, rfl, rfl⟩).1⟩
theorem Ms.setLife (h : Ms w0 c x sl n K now D ws cur ii tt q tr LL AA w) {j : Nat} {p : Lb} (p' : Lb) (hp : LL[j]? = some p) (off : Nat) (v : Value) (h1 : p'.1 = p.1) (h2 : p'.2.1 = p.2.1) (h3 : p'.2.2.slot = p.2.2.slot ∧ p'.2.2.md = p.2.2.md ∧ p'.2.2.sn = p.2.2.sn) (hc : (lic p).setIfInBounds off v = lic p') : Ms w0 c x sl n K now D ws cur ii tt q tr (LL.set j p') AA (w.setCell ⟨p.1, off, none⟩ v) := by
  obtain ⟨o1, o2⟩ := h.sw.life hp
  have t := turn_b p.1 off v w
  exact ⟨h.bel.trans (t.below (fun k hk => by omega) h.bel.size), h.m.kept t (fun k hk e => h.m.not o1 (by decide) (e ▸ hk)), h.sw.setLife p' hp off v h1 h2 h3 hc, h.gi, h.gt⟩
theorem Ms.setWait (h : Ms w0 c x sl n K now D ws cur ii tt q tr LL AA w) {j : Nat} {p : Wb} (p' : Wb) (hp : AA[j]? = some p) (off : Nat) (v : Value) (h1 : p'.1 = p.1) (h2 : p'.2.1 = p.2.1) (h3 : p'.2.2.si = p.2.2.si ∧ p'.2.2.nx = p.2.2.nx) (hc : (wac p).setIfInBounds off v = wac p') : Ms w0 c x sl n K now D ws cur ii tt q tr LL (AA.set j p') (w.setCell ⟨p.1, off, none⟩ v) := by
  obtain ⟨o1, o2⟩ := h.sw.wait hp
  have t := turn_b p.1 off v w
  exact ⟨h.bel.trans (t.below (fun k hk => by omega) h.bel.size), h.m.kept t (fun k hk e => h.m.not o1 (by decide) (e ▸ hk)), h.sw.setWait p' hp off v h1 h2 h3 hc, h.gi, h.gt⟩
theorem Ms.iput (h : Ms w0 c x sl n K now D ws cur ii tt q tr LL AA w) {k : Nat} (hk : k < n) (v : Int) : Ms w0 c x sl n K now D ws cur (ii.set k v) tt q tr LL AA (w.setCell ⟨q.gi, k, none⟩ (.int .i64 v)) := by
  have t := turn_b q.gi k (.int .i64 v) w
  have hl := h.glow
  exact ⟨h.bel.trans (t.below (fun k hk => by omega) h.bel.size), h.m.kept t (fun k hk e => h.gi (e ▸ hk)), h.sw.iput hk v, h.gi, h.gt⟩
theorem Ms.tput (h : Ms w0 c x sl n K now D ws cur ii tt q tr LL AA w) {k : Nat} (hk : k < K) (v : Int) : Ms w0 c x sl n K now D ws cur ii (tt.set k v) q tr LL AA (w.setCell ⟨q.gt, k, none⟩ (.int .i64 v)) := by
  have t := turn_b q.gt k (.int .i64 v) w
  have hl := h.glow
  exact ⟨h.bel.trans (t.below (fun k hk => by omega) h.bel.size), h.m.kept t (fun k hk e => h.gt (e ▸ hk)), h.sw.tput hk v, h.gi, h.gt⟩
theorem Ms.to (h : Ms w0 c x sl n K now D ws cur ii tt q tr LL AA w) (hb : bad' = 0) (k : To D w0.heap.size x ws' tr' bad' w w') : ∃ D', Ms w0 c x sl n K now D' ws' cur ii tt q tr' LL AA w' := by
  have hw := h.sw.to h.m h.gi h.gt k
  subst hb
  obtain ⟨D', m', t, s⟩ := k
  have hg := h.gilt
  exact ⟨D', h.bel.trans (t.below (fun j hj => (h.m.lo hj).1) h.bel.size), m', hw, fun z => by rcases s _ z with y | y; exact h.gi y; omega, fun z => by rcases s _ z with y | y; exact h.gt y; omega⟩
theorem Ms.secTo (h : Ms w0 c x sl n K now D ws cur ii tt q tr LL AA w) (hb : bad' = 0) {j : Nat} {p : Lb} (p' : Lb) (hp : LL[j]? = some p) (h1 : p'.1 = p.1) (h2 : p'.2.1 = p.2.1) (hl : lic p' = lic p) (k : BTo D w0.heap.size x p.2.1 ws' tr' bad' (scc x 1 2 n p'.2.2.slot p'.2.2.md p'.2.2.sn) 115 w w') : ∃ D', Ms w0 c x sl n K now D' ws' cur ii tt q tr' (LL.set j p') AA w' := by
  have hw := h.sw.secTo h.m h.gi h.gt p' hp h1 h2 hl k
  have o2 := (h.sw.sec hp).2
  subst hb
  obtain ⟨D', m', hx, t, s⟩ := k
  have hg := h.gilt
  exact ⟨D', h.bel.trans (t.below (fun j hj => by rcases hj with z | z; exact (h.m.lo z).1; omega) h.bel.size), m', hw, fun z => by rcases s _ z with y | y; exact h.gi y; omega, fun z => by rcases s _ z with y | y; exact h.gt y; omega⟩
theorem Ms.graTo (h : Ms w0 c x sl n K now D ws cur ii tt q tr LL AA w) (hb : bad' = 0) {j : Nat} {p : Wb} (p' : Wb) (hp : AA[j]? = some p) (h1 : p'.1 = p.1) (h2 : p'.2.1 = p.2.1) (hl : wac p' = wac p) (k : BTo D w0.heap.size x p.2.1 ws' tr' bad' (grc x 1 2 n p'.2.2.si p'.2.2.nx) 113 w w') : ∃ D', Ms w0 c x sl n K now D' ws' cur ii tt q tr' LL (AA.set j p') w' := by
  have hw := h.sw.graTo h.m h.gi h.gt p' hp h1 h2 hl k
  have o2 := (h.sw.gra hp).2
  subst hb
  obtain ⟨D', m', hx, t, s⟩ := k
  have hg := h.gilt
  exact ⟨D', h.bel.trans (t.below (fun j hj => by rcases hj with z | z; exact (h.m.lo z).1; omega) h.bel.size), m', hw, fun z => by rcases s _ z with y | y; exact h.gi y; omega, fun z => by rcases s _ z with y | y; exact h.gt y; omega⟩
/-- behind N picks -/
def Se (w0 : World) (c x sl n K N : Nat) (now : Int) (w : World) : Prop :=
  ∃ D s q tr LL AA, Ms w0 c x sl n K now D (Mm n s.cur s.ep s.wd) s.cur ((List.range n).map s.inn) ((List.range K).map s.turn) q tr LL AA w ∧ s.L = LL.map (·.2.2) ∧ s.A = AA.map (·.2.2) ∧ Inv n K s N ∧ tr.length ≤ 2 * N + 1 ∧ LL.length ≤ N ∧ AA.length ≤ N
theorem Ms.cell_life (h : Ms w0 c x sl n K now D ws cur ii tt q tr LL AA w) {j : Nat} {p : Lb} (hp : LL[j]? = some p) (off : Nat) : w.frozen? ⟨p.1, off, none⟩ = false := Lib.frozen_of_heap (h.sw.life hp).1 off
theorem Ms.fz_in (h : Ms w0 c x sl n K now D ws cur ii tt q tr LL AA w) (off : Nat) : w.frozen? ⟨q.gi, off, none⟩ = false := by
  obtain ⟨_, h1⟩ := h.sw.gik
  exact Lib.frozen_of_heap h1 off
theorem Ms.fz_turn (h : Ms w0 c x sl n K now D ws cur ii tt q tr LL AA w) (off : Nat) : w.frozen? ⟨q.gt, off, none⟩ = false := by
  obtain ⟨_, h1⟩ := h.sw.gtk
  exact Lib.frozen_of_heap h1 off
theorem Ms.cell_wait (h : Ms w0 c x sl n K now D ws cur ii tt q tr LL AA w) {j : Nat} {p : Wb} (hp : AA[j]? = some p) (off : Nat) : w.frozen? ⟨p.1, off, none⟩ = false := Lib.frozen_of_heap (h.sw.wait hp).1 off
end Wt
end Go.Proofs.Ytbbopkhgmgdlfaa
set_option linter.unusedVariables false
set_option linter.unusedSimpArgs false
namespace Go.Proofs.Ytbbopkhgmgdlfaa
open Go.RowKit
namespace Wt
open M F V
variable {w0 : World} {c x sl n K N k j : Nat} {q : Pl} {s : St} {tr : List Ac} {LL : List Lb} {AA : List Wb} {w w' : World} {D : Nat → Prop} {p : Lb}
/-- what stands at a reader's call -/
structure At1 (w0 : World) (c x sl n K N : Nat) (D : Nat → Prop) (s : St) (q : Pl) (tr : List Ac) (LL : List Lb) (AA : List Wb) (w : World) : Prop where
  ms : Ms w0 c x sl n K (N : Nat) D (Mm n s.cur s.ep s.wd) s.cur ((List.range n).map s.inn) ((List.range K).map s.turn) q tr LL AA w
  eL : s.L = LL.map (·.2.2)
  eA : s.A = AA.map (·.2.2)
  inv : Inv n K s (N : Nat)
  tl : tr.length ≤ 2 * N + 1
  ll : LL.length ≤ N
  al : AA.length ≤ N
theorem At1.drewN (h : At1 w0 c x sl n K N D s q tr LL AA w) (m : Nat) : At1 w0 c x sl n K N D s q tr LL AA (w.drewN m) := ⟨h.ms.drewN m, h.eL, h.eA, h.inv, h.tl, h.ll, h.al⟩
theorem At1.lj (h : At1 w0 c x sl n K N D s q tr LL AA w) (hp : LL[j]? = some p) : s.L[j]? = some p.2.2 := by rw [h.eL, List.getElem?_map, hp]; rfl
theorem At1.wdn (h : At1 w0 c x sl n K N D s q tr LL AA w) (hk : k < n) : 0 ≤ s.wd k := by
  rcases h.inv.inn k hk with ⟨_, h2⟩ | ⟨j, l, h1, h2, h3, h4, h5⟩
  · omega
  · rw [h5]
    split
    · omega
    · have a := h.inv.li j l h2
      have := a.yes (by omega)
      have := a.sn
      omega
theorem At1.slot (h : At1 w0 c x sl n K N D s q tr LL AA w) (hk : k < n) (hi : s.inn k = (j : Nat)) (hp : LL[j]? = some p) : p.2.2.slot = k := by
  have hj := h.lj hp
  rcases h.inv.inn k hk with ⟨h1, _⟩ | ⟨j', l', h1, h2, h3, h4, _⟩
  · rw [hi] at h1; omega
  · have e : j' = j := by rw [hi] at h1; omega
    subst e; rw [hj] at h2; cases h2; exact h3
theorem n1 (N : Nat) : ((N + 1 : Nat) : Int) = (N : Int) + 1 := by omega
theorem fin_r2 (h : At1 w0 c x sl n K N D s q tr LL AA w) (hp : LL[j]? = some p) (hb : 0 ≤ p.2.2.begun) (v : Ac) (t : To D w0.heap.size x (Mm n s.cur s.ep s.wd) (tr ++ [v]) (0 + bd (Mm n s.cur s.ep s.wd) 0) w w') :
    w'.cell? ⟨p.1, 6, none⟩ = some (.int .i64 p.2.2.read) ∧ w'.frozen? ⟨p.1, 6, none⟩ = false ∧ Se w0 c x sl n K (N + 1) (N : Nat) (w'.setCell ⟨p.1, 6, none⟩ (.int .i64 s.cur)) := by
  have hc := h.inv.cur
  obtain ⟨D', h3⟩ := h.ms.to (by rw [(mm0 n s.wd hc.1).2.2.1]) t
  refine ⟨h3.sw.l6 hp, h3.cell_life hp 6, ?_⟩
  have h4 := h3.setLife (p.1, p.2.1, r2l p.2.2 s.cur) hp 6 (.int .i64 s.cur) rfl rfl ⟨rfl, rfl, rfl⟩ rfl
  have tl := h.tl
  have ll := h.ll
  have al := h.al
  refine ⟨D', r2 s j p.2.2, q, _, _, AA, h4, ?_, h.eA, ?_, by rw [List.length_append, List.length_singleton]; omega, by rw [List.length_set]; omega, by omega⟩
  · show s.L.set j _ = _
    rw [h.eL, List.map_set]
  · rw [n1]; exact inv_r2 h.inv (h.lj hp) hb
set_option maxRecDepth 100000 in
set_option maxHeartbeats 4000000 in
theorem reader_2 (h : At1 w0 c x sl n K N D s q tr LL AA w) (hk : k < n) (hN : N < 199999999999) (hi : s.inn k = (j : Nat)) (hp : LL[j]? = some p) (hb : 0 ≤ p.2.2.begun) (hr : p.2.2.read < 0) :
    Calls Try.prog 21 #[.pointer (some ⟨c, 0, none⟩), .int .i64 (k : Nat)] w fun r w' => r = .returned (.bool true) ∧ Se w0 c x sl n K (N + 1) (N : Nat) w' := by
  have c5 := h.ms.sw.c5
  have e0 := h.ms.sw.icell (rmap_at s.inn hk)
  rw [hi] at e0
  obtain ⟨g, hg, e1⟩ := h.ms.sw.lrow hp
  have c4 := h.ms.sw.c4
  rw [hg] at c4
  have tl := h.tl
  have HX : Hid (∀ m, (w.drewN m).cell? ⟨p.1, 2, none⟩ = some (.int .i64 p.2.2.first) ∧ (w.drewN m).cell? ⟨p.1, 3, none⟩ = some (.int .i64 p.2.2.begun) ∧ (w.drewN m).cell? ⟨p.1, 6, none⟩ = some (.int .i64 p.2.2.read) ∧ (w.drewN m).cell? ⟨c, 0, none⟩ = some (.pointer (some ⟨x, 0, none⟩))) := hide' (fun m => ⟨h.ms.sw.l2 hp, h.ms.sw.l3 hp, h.ms.sw.l6 hp, h.ms.sw.c0⟩)
  have HC : Hid (∀ m, Calls Try.prog 48 #[.pointer (some ⟨x, 0, none⟩), .int .i64 0] (w.drewN m) fun r w' => r = .returned (.tuple #[.int .i64 s.cur, .int .i64 0]) ∧ w'.cell? ⟨p.1, 6, none⟩ = some (.int .i64 p.2.2.read) ∧ w'.frozen? ⟨p.1, 6, none⟩ = false ∧ Se w0 c x sl n K (N + 1) (N : Nat) (w'.setCell ⟨p.1, 6, none⟩ (.int .i64 s.cur))) := hide' (fun m => by
    have z := mm0 n (ep := s.ep) s.wd h.inv.cur.1
    refine (load_any 0 (h.drewN m).ms.m (by omega)).mono fun r w' ⟨hr, ht⟩ => ⟨?_, fin_r2 (h.drewN m) hp hb _ ht⟩
    rw [hr, z.1, z.2.1])
  have hlj : (j : Int) < (LL.length : Int) := by have := (List.getElem?_eq_some_iff.1 hp).1; omega
  have hk' : (k : Int) < (n : Int) := by omega
  have d2 : decide (p.2.2.first < 0) = false := decide_eq_false (by have := (h.inv.li j _ (h.lj hp)).first; omega)
  have d3 : decide (p.2.2.begun < 0) = false := decide_eq_false (by omega)
  have d6 : decide (p.2.2.read < 0) = true := decide_eq_true hr
  have d0 : decide ((j : Int) < 0) = false := decide_eq_false (by omega)
  clear h hk hi hp hb hr hg tl
  generalize p.2.2.first = fi at *
  generalize p.2.2.begun = bg at *
  generalize p.2.2.read = rd at *
  generalize p.1 = pb at *
  generalize LL.length = L at *
  generalize s.cur = cu at *
  go_enter Try.func21, Try.ntmps21
  go_wp2_with fail
  go_quiet (fail)
  obtain ⟨a2, a3, a6, c0⟩ := HX.out nq
  have HC' := hide' (HC.out nq)
  clear HC HX c5 c4 e0 e1
  generalize w.drewN nq = w2 at *
  go_wp2_with fail
  refine HC'.out.mono ?_
  rintro r w3 ⟨rfl, f1, f2, f3⟩
  have F := hide' f3
  clear f3 HC' a2 a3 a6 c0
  go_wp2
  go_ret
  exact ⟨rfl, F.out⟩
end Wt
end Go.Proofs.Ytbbopkhgmgdlfaa
set_option linter.unusedVariables false
set_option linter.unusedSimpArgs false
namespace Go.Proofs.Ytbbopkhgmgdlfaa
open Go.RowKit
namespace Wt
open M F V
variable {w0 : World} {c x sl n K N k j : Nat} {q : Pl} {s : St} {tr : List Ac} {LL : List Lb} {AA : List Wb} {w w' : World} {D : Nat → Prop} {p : Lb}
theorem fin_r3 (h : At1 w0 c x sl n K N D s q tr LL AA w) (hk : k < n) (hn : n ≤ 16) (hN : N < 199999999999) (hi : s.inn k = (j : Nat)) (hp : LL[j]? = some p) (hb : 0 ≤ p.2.2.begun) :
    w.cell? ⟨c, 3, none⟩ = some (.int .i64 (N : Nat)) ∧ w.cell? ⟨p.1, 4, none⟩ = some (.int .i64 p.2.2.left) ∧ w.frozen? ⟨p.1, 4, none⟩ = false ∧ (w.setCell ⟨p.1, 4, none⟩ (.int .i64 (N : Nat))).cell? ⟨c, 5, none⟩ = some (.slice (some ⟨q.gi, 0, none⟩) n q.ic) ∧ (w.setCell ⟨p.1, 4, none⟩ (.int .i64 (N : Nat))).cell? ⟨q.gi, k, none⟩ = some (.int .i64 (j : Nat)) ∧ (w.setCell ⟨p.1, 4, none⟩ (.int .i64 (N : Nat))).frozen? ⟨q.gi, k, none⟩ = false ∧ ((w.setCell ⟨p.1, 4, none⟩ (.int .i64 (N : Nat))).setCell ⟨q.gi, k, none⟩ (.int .i64 (-1))).cell? ⟨c, 1, none⟩ = some (.pointer (some ⟨sl, 0, none⟩)) ∧ Calls Try.prog 29 #[.pointer (some ⟨sl, 0, none⟩), .int .i64 (k : Nat)] ((w.setCell ⟨p.1, 4, none⟩ (.int .i64 (N : Nat))).setCell ⟨q.gi, k, none⟩ (.int .i64 (-1))) (fun r w' => r = .returned (.int .i64 0) ∧ Se w0 c x sl n K (N + 1) (N : Nat) w') := by
  have ha := h.ms.setLife (p.1, p.2.1, r3l p.2.2 (N : Nat)) hp 4 (.int .i64 (N : Nat)) rfl rfl ⟨rfl, rfl, rfl⟩ rfl
  have hbb := ha.iput hk (-1)
  have e0 := ha.sw.icell (rmap_at s.inn hk)
  rw [hi] at e0
  have tl := h.tl
  have ll := h.ll
  have al := h.al
  refine ⟨h.ms.sw.c3, h.ms.sw.l4 hp, h.ms.cell_life hp 4, ha.sw.c5, e0, ha.fz_in k, hbb.sw.c1, ?_⟩
  have z := mmk s.cur s.ep s.wd hk (h.wdn hk)
  refine (leave_ok k (2 + k) rfl (by omega) hbb.sw.hsl hbb.m (by omega) hk).mono fun r w' ⟨hr, ht⟩ => ⟨by rw [hr, z.1], ?_⟩
  obtain ⟨D', h4⟩ := hbb.to (by rw [z.2.2.1]) ht
  rw [z.2.2.2, rmap_set] at h4
  refine ⟨D', r3 s k j p.2.2 (N : Nat), q, _, _, AA, h4, ?_, h.eA, ?_, by rw [List.length_append, List.length_singleton]; omega, by rw [List.length_set]; omega, by omega⟩
  · show s.L.set j _ = _
    rw [h.eL, List.map_set]
  · rw [n1]; exact inv_r3 h.inv hk hi (h.lj hp) hb
set_option maxRecDepth 100000 in
set_option maxHeartbeats 4000000 in
theorem reader_3 (h : At1 w0 c x sl n K N D s q tr LL AA w) (hk : k < n) (hn : n ≤ 16) (hN : N < 199999999999) (hi : s.inn k = (j : Nat)) (hp : LL[j]? = some p) (hb : 0 ≤ p.2.2.begun) (hr : ¬ p.2.2.read < 0) :
    Calls Try.prog 21 #[.pointer (some ⟨c, 0, none⟩), .int .i64 (k : Nat)] w fun r w' => r = .returned (.bool true) ∧ Se w0 c x sl n K (N + 1) (N : Nat) w' := by
  have c5 := h.ms.sw.c5
  have e0 := h.ms.sw.icell (rmap_at s.inn hk)
  rw [hi] at e0
  obtain ⟨g, hg, e1⟩ := h.ms.sw.lrow hp
  have c4 := h.ms.sw.c4
  rw [hg] at c4
  have HX : Hid (∀ m, (w.drewN m).cell? ⟨p.1, 2, none⟩ = some (.int .i64 p.2.2.first) ∧ (w.drewN m).cell? ⟨p.1, 3, none⟩ = some (.int .i64 p.2.2.begun) ∧ (w.drewN m).cell? ⟨p.1, 6, none⟩ = some (.int .i64 p.2.2.read)) := hide' (fun m => ⟨h.ms.sw.l2 hp, h.ms.sw.l3 hp, h.ms.sw.l6 hp⟩)
  have HC := hide' (fun m => fin_r3 (h.drewN m) hk hn hN hi hp hb)
  have hlj : (j : Int) < (LL.length : Int) := by have := (List.getElem?_eq_some_iff.1 hp).1; omega
  have hk' : (k : Int) < (n : Int) := by omega
  have d2 : decide (p.2.2.first < 0) = false := decide_eq_false (by have := (h.inv.li j _ (h.lj hp)).first; omega)
  have d3 : decide (p.2.2.begun < 0) = false := decide_eq_false (by omega)
  have d6 : decide (p.2.2.read < 0) = false := decide_eq_false hr
  have d0 : decide ((j : Int) < 0) = false := decide_eq_false (by omega)
  clear h hk hi hp hb hr hg
  generalize p.2.2.first = fi at *
  generalize p.2.2.begun = bg at *
  generalize p.2.2.read = rd at *
  generalize p.2.2.left = lf at *
  generalize p.1 = pb at *
  generalize LL.length = L at *
  go_enter Try.func21, Try.ntmps21
  go_wp2_with fail
  go_quiet (fail)
  obtain ⟨a2, a3, a6⟩ := HX.out nq
  obtain ⟨b1, b2, b3, b4, b5, b6, b7, b8⟩ := HC.out nq
  have HC' := hide' b8
  clear HC HX c5 c4 e0 e1 b8
  generalize w.drewN nq = w2 at *
  go_wp2_with fail
  refine HC'.out.mono ?_
  rintro r w3 ⟨rfl, f3⟩
  have F := hide' f3
  clear f3 HC' a2 a3 a6 b1 b2 b3 b4 b5 b6 b7
  go_wp2
  go_ret
  exact ⟨rfl, F.out⟩
theorem fin_r1 (h : At1 w0 c x sl n K N D s q tr LL AA w) (hk : k < n) (hn : n ≤ 16) (hN : N < 199999999999) (hi : s.inn k = (j : Nat)) (hp : LL[j]? = some p) (hb : p.2.2.begun < 0) :
    w.cell? ⟨c, 3, none⟩ = some (.int .i64 (N : Nat)) ∧ w.frozen? ⟨p.1, 3, none⟩ = false ∧ (w.setCell ⟨p.1, 3, none⟩ (.int .i64 (N : Nat))).cell? ⟨p.1, 0, none⟩ = some (.pointer (some ⟨p.2.1, 0, none⟩)) ∧ Calls Try.prog 26 #[.pointer (some ⟨p.2.1, 0, none⟩)] (w.setCell ⟨p.1, 3, none⟩ (.int .i64 (N : Nat))) (fun r w' => r = .returned (.bool true) ∧ w'.cell? ⟨p.1, 0, none⟩ = some (.pointer (some ⟨p.2.1, 0, none⟩)) ∧ w'.cell? ⟨p.1, 5, none⟩ = some (.int .i64 p.2.2.mark) ∧ w'.frozen? ⟨p.1, 5, none⟩ = false ∧ Calls Try.prog 30 #[.pointer (some ⟨p.2.1, 0, none⟩)] w' (fun r2 w2 => r2 = .returned (.int .i64 p.2.2.sn) ∧ w2 = w') ∧ Calls Try.prog 47 #[.pointer (some ⟨c, 0, none⟩), .pointer (some ⟨p.1, 0, none⟩)] (w'.setCell ⟨p.1, 5, none⟩ (.int .i64 p.2.2.sn)) (fun r3 w3 => r3 = .returned (.bool true) ∧ Se w0 c x sl n K (N + 1) (N : Nat) w3)) := by
  have hlt := (List.getElem?_eq_some_iff.1 hp).1
  have hj := h.lj hp
  have hok := h.inv.li j _ hj
  obtain ⟨_, hmd, hrd, hlf⟩ := hok.no hb
  have hsl := h.slot hk hi hp
  have ha := h.ms.setLife (p.1, p.2.1, { p.2.2 with begun := (N : Nat) }) hp 3 (.int .i64 (N : Nat)) rfl rfl ⟨rfl, rfl, rfl⟩ rfl
  have hpa : (LL.set j (p.1, p.2.1, { p.2.2 with begun := (N : Nat) }))[j]? = some (p.1, p.2.1, { p.2.2 with begun := (N : Nat) }) := List.getElem?_set_self hlt
  have tl := h.tl
  have ll := h.ll
  have al := h.al
  have z := mmk s.cur s.ep s.wd hk (h.wdn hk)
  have hsc : Sc p.2.1 x 1 2 n k 1 p.2.2.sn (w.setCell ⟨p.1, 3, none⟩ (.int .i64 (N : Nat))) := by
    have := (ha.sw.sec hpa).1
    show _ = some (Obj.cells (scc x 1 2 n k 1 p.2.2.sn) 115 (0, 0))
    rw [this]
    show some (Obj.cells (scc x 1 2 n p.2.2.slot p.2.2.md p.2.2.sn) 115 (0, 0)) = _
    rw [hsl, hmd]
  refine ⟨h.ms.sw.c3, h.ms.cell_life hp 3, by have := ha.sw.l0 hpa; exact this, ?_⟩
  refine (step1_any (2 + k) rfl (by omega) ha.m hsc (by omega)).mono fun r w' ⟨hr, ht⟩ => ⟨hr, ?_⟩
  rw [z.2.2.1, z.2.2.2] at ht
  have hbb := ha.secTo (bad' := 0 + 0) rfl (p.1, p.2.1, { p.2.2 with begun := (N : Nat), md := 2 }) hpa rfl rfl rfl (by
    have e : scc x 1 2 n k 2 p.2.2.sn = scc x 1 2 n p.2.2.slot 2 p.2.2.sn := by rw [hsl]
    rw [e] at ht
    exact ht)
  rw [List.set_set] at hbb
  obtain ⟨D', h4⟩ := hbb
  have hpb : (LL.set j (p.1, p.2.1, { p.2.2 with begun := (N : Nat), md := 2 }))[j]? = some (p.1, p.2.1, { p.2.2 with begun := (N : Nat), md := 2 }) := List.getElem?_set_self hlt
  have h5 := h4.setLife (p.1, p.2.1, b1 p.2.2 (N : Nat)) hpb 5 (.int .i64 p.2.2.sn) rfl rfl ⟨rfl, rfl, rfl⟩ rfl
  rw [List.set_set] at h5
  have hpc : (LL.set j (p.1, p.2.1, b1 p.2.2 (N : Nat)))[j]? = some (p.1, p.2.1, b1 p.2.2 (N : Nat)) := List.getElem?_set_self hlt
  have hsc2 : Sc p.2.1 x 1 2 n p.2.2.slot 2 p.2.2.sn w' := (h4.sw.sec hpb).1
  refine ⟨by have := h4.sw.l0 hpb; exact this, by have := h4.sw.l5 hpb; exact this, by have := h4.cell_life hpb 5; exact this, mark_any hsc2, ?_⟩
  refine (marks_any h5.sw hpc (by rw [List.length_set]; omega) (fun i o ho h0 h1 => ?_) hok.sn.1).mono fun r3 w3 ⟨hr3, m, hw3⟩ => ⟨hr3, ?_⟩
  · refine mark_r1 h.inv (now := (N : Nat)) hj hb i o.2.2 ?_ h0 h1
    rw [h.eL, ← List.map_set (f := fun (y : Lb) => y.2.2) (a := (p.1, p.2.1, b1 p.2.2 (N : Nat))), List.getElem?_map, ho]; rfl
  · subst hw3
    refine ⟨D', r1 s k j p.2.2 (N : Nat), q, _, _, AA, h5.drewN m, ?_, h.eA, ?_, by rw [List.length_append, List.length_singleton]; omega, by rw [List.length_set]; omega, by omega⟩
    · show s.L.set j _ = _
      rw [h.eL, List.map_set]
    · rw [n1]; exact inv_r1 h.inv hk hi hj hb
set_option maxRecDepth 100000 in
set_option maxHeartbeats 4000000 in
theorem reader_1 (h : At1 w0 c x sl n K N D s q tr LL AA w) (hk : k < n) (hn : n ≤ 16) (hN : N < 199999999999) (hi : s.inn k = (j : Nat)) (hp : LL[j]? = some p) (hb : p.2.2.begun < 0) :
    Calls Try.prog 21 #[.pointer (some ⟨c, 0, none⟩), .int .i64 (k : Nat)] w fun r w' => r = .returned (.bool true) ∧ Se w0 c x sl n K (N + 1) (N : Nat) w' := by
  have c5 := h.ms.sw.c5
  have e0 := h.ms.sw.icell (rmap_at s.inn hk)
  rw [hi] at e0
  obtain ⟨g, hg, e1⟩ := h.ms.sw.lrow hp
  have c4 := h.ms.sw.c4
  rw [hg] at c4
  have HX : Hid (∀ m, (w.drewN m).cell? ⟨p.1, 2, none⟩ = some (.int .i64 p.2.2.first) ∧ (w.drewN m).cell? ⟨p.1, 3, none⟩ = some (.int .i64 p.2.2.begun)) := hide' (fun m => ⟨h.ms.sw.l2 hp, h.ms.sw.l3 hp⟩)
  have HC := hide' (fun m => fin_r1 (h.drewN m) hk hn hN hi hp hb)
  have hlj : (j : Int) < (LL.length : Int) := by have := (List.getElem?_eq_some_iff.1 hp).1; omega
  have hk' : (k : Int) < (n : Int) := by omega
  have d2 : decide (p.2.2.first < 0) = false := decide_eq_false (by have := (h.inv.li j _ (h.lj hp)).first; omega)
  have d3 : decide (p.2.2.begun < 0) = true := decide_eq_true hb
  have d0 : decide ((j : Int) < 0) = false := decide_eq_false (by omega)
  clear h hk hi hp hb hg
  generalize p.2.2.first = fi at *
  generalize p.2.2.begun = bg at *
  generalize p.2.2.mark = mk at *
  generalize p.2.2.sn = sn at *
  generalize p.2.1 = sb at *
  generalize p.1 = pb at *
  generalize LL.length = L at *
  go_enter Try.func21, Try.ntmps21
  go_wp2_with fail
  go_quiet (fail)
  obtain ⟨a2, a3⟩ := HX.out nq
  obtain ⟨b1, b2, b3, b4⟩ := HC.out nq
  have HC' := hide' b4
  clear HC HX c5 c4 e0 e1 b4
  generalize w.drewN nq = w2 at *
  go_wp2_with fail
  refine HC'.out.mono ?_
  rintro r w3 ⟨rfl, f0, f5, f6, f7, f8⟩
  have H7 := hide' f7
  have H8 := hide' f8
  clear f7 f8 HC' a2 a3 b1 b2 b3
  go_wp2_with fail
  refine H7.out.mono ?_
  rintro r w4 ⟨rfl, rfl⟩
  clear H7
  go_wp2_with fail
  refine H8.out.mono ?_
  rintro r w5 ⟨rfl, f9⟩
  have F := hide' f9
  clear f9 H8 f0 f5 f6
  go_wp2
  go_ret
  exact ⟨rfl, F.out⟩
end Wt
end Go.Proofs.Ytbbopkhgmgdlfaa
set_option linter.unusedVariables false
set_option linter.unusedSimpArgs false
namespace Go.Proofs.Ytbbopkhgmgdlfaa
open Go.RowKit
namespace Wt
open M F V
variable {w0 : World} {c x sl n K N k j : Nat} {q : Pl} {s : St} {now cur : Int} {ii tt : List Int} {ws : List Int} {tr : List Ac} {LL : List Lb} {AA : List Wb} {w w' : World} {D : Nat → Prop} {p : Lb}
theorem info103 : (Try.prog.info? 103).map (fun i => (i.zero, i.size, i.bytes)) = some (some (.pointer none), 1, 8) := by kernel_rfl
theorem info109 : (Try.prog.info? 109).map (fun i => (i.zero, i.size, i.bytes)) = some (some (.pointer none), 1, 8) := by kernel_rfl
/-- a section more, its life, and the row of lives grown -/
theorem Ms.growL (h : Ms w0 c x sl n K now D ws cur ii tt q tr LL AA w) {sb lb : Nat} {l : Li} (hs : w.heap[sb]? = some (.cells (scc x 1 2 n l.slot l.md l.sn) 115 (0, 0))) (hl : w.heap[lb]? = some (.cells (lic (lb, sb, l)) 105 (0, 0))) (hB : w0.heap.size ≤ sb ∧ w0.heap.size ≤ lb) (ns : ∀ (i : Nat) (p : Lb), LL[i]? = some p → p.2.1 ≠ sb ∧ p.1 ≠ lb) {gg cap' : Nat} {w1 : World}
    (hr1 : w1.ownsRow w0.heap.size 103 1 (.slice (some ⟨gg, 0, none⟩) (LL.length + 1) cap') (LL.length + 1) ((LL.map (·.1)).map ptr ++ [ptr lb])) (t : Turn (At q.lo) w w1) :
    Ms w0 c x sl n K now D ws cur ii tt { q with lo := some ⟨gg, 0, none⟩, lc := cap' } tr (LL ++ [(lb, sb, l)]) AA (w1.setCell ⟨c, 4, none⟩ (.slice (some ⟨gg, 0, none⟩) (LL.length + 1) cap')) := by
  have far : ∀ {j : Nat} {cs : Array Value} {T : TypeId}, w.heap[j]? = some (.cells cs T (0, 0)) → T ≠ 103 → ¬ At q.lo j := fun hj n1 z => by
    obtain ⟨_, _, cs', h'⟩ := row_atk h.sw.rl z
    exact cells_ne hj h' n1 rfl
  have hc1 := (t.block c (lt_of_heap h.sw.hc) (far h.sw.hc (by decide))).trans h.sw.hc
  have t2 := turn_b c 4 (.slice (some ⟨gg, 0, none⟩) (LL.length + 1) cap') w1
  have tt2 : Turn (fun j => At q.lo j ∨ j = c) w (w1.setCell ⟨c, 4, none⟩ (.slice (some ⟨gg, 0, none⟩) (LL.length + 1) cap')) := (t.mono (fun j _ z => .inl z)).trans (t2.mono (fun j _ z => .inr z))
  have far2 : ∀ {j : Nat} {cs : Array Value} {T : TypeId}, w.heap[j]? = some (.cells cs T (0, 0)) → T ≠ 103 → T ≠ 67 → ¬ (At q.lo j ∨ j = c) := fun hj n1 n2 z => by
    rcases z with z | z
    · exact far hj n1 z
    · exact cells_ne hj h.sw.hc n2 z
  obtain ⟨ci, hci⟩ := h.sw.gik
  obtain ⟨ct, hct⟩ := h.sw.gtk
  refine ⟨h.bel.trans (tt2.below (fun j hj => ?_) h.bel.size), h.m.kept tt2 (fun j hj z => ?_), ⟨?_, h.sw.hsl.kept tt2 (far2 h.sw.hsl (by decide) (by decide)), ?_, ?_, ?_, ?_, ?_, ?_, h.sw.fw.kept tt2 (fun j cs hj => far2 hj (by decide) (by decide)), h.sw.fg.kept tt2 (fun j cs hj => far2 hj (by decide) (by decide)), h.sw.ne, h.sw.lb⟩, h.gi, h.gt⟩
  · rcases hj with z | z
    · exact (row_atk h.sw.rl z).1
    · rw [z]; exact h.sw.lb.1
  · obtain ⟨cs, T, hT, hk⟩ := h.m.kind hj
    exact far2 hT (by rcases hk with rfl | rfl | rfl <;> decide) (by rcases hk with rfl | rfl | rfl <;> decide) z
  · have := set_block (off := 4) (v := .slice (some ⟨gg, 0, none⟩) (LL.length + 1) cap') hc1
    rw [this, List.length_append, List.length_singleton]; rfl
  · rw [List.length_append, List.length_singleton, List.map_append, List.map_append]
    refine t2.row hr1 (fun j hj e => ?_)
    have e1 : gg = j := by simpa [Value.ownBlock] using hj
    obtain ⟨_, _, cs', h'⟩ := row_atk hr1 ⟨_, rfl, rfl⟩
    exact cells_ne h' hc1 (by decide) (e1.trans e)
  · refine tt2.row h.sw.rw (fun j hj => ?_)
    obtain ⟨_, _, cs, h'⟩ := row_atk h.sw.rw (own_at hj)
    exact far2 h' (by decide) (by decide)
  · refine tt2.row h.sw.ri (fun j hj => ?_)
    obtain ⟨_, _, cs, h'⟩ := row_atk h.sw.ri (own_at hj)
    exact far2 h' (by decide) (by decide)
  · refine tt2.row h.sw.rt (fun j hj => ?_)
    obtain ⟨_, _, cs, h'⟩ := row_atk h.sw.rt (own_at hj)
    exact far2 h' (by decide) (by decide)
  · rw [List.map_append]
    refine (h.sw.fl.kept tt2 (fun j cs hj => far2 hj (by decide) (by decide))).add ((tt2.block lb (lt_of_heap hl) (far2 hl (by decide) (by decide))).trans hl) hB.2 (fun i u hu => ?_)
    rw [List.getElem?_map] at hu
    cases hp : LL[i]? with
    | none => rw [hp] at hu; cases hu
    | some p => rw [hp] at hu; cases hu; exact (ns i p hp).2
  · rw [List.map_append]
    refine (h.sw.fs.kept tt2 (fun j cs hj => far2 hj (by decide) (by decide))).add ((tt2.block sb (lt_of_heap hs) (far2 hs (by decide) (by decide))).trans hs) hB.1 (fun i u hu => ?_)
    rw [List.getElem?_map] at hu
    cases hp : LL[i]? with
    | none => rw [hp] at hu; cases hu
    | some p => rw [hp] at hu; cases hu; exact (ns i p hp).1
end Wt
end Go.Proofs.Ytbbopkhgmgdlfaa
