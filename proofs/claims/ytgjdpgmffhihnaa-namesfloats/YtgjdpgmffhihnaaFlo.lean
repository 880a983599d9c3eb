import Derived.Test.YtgjdpgmffhihnaaTurn
import Derived.Test.YtgjdpgmffhihnaaProg
import Derived.WalkKit
import Derived.WalkLawsBesides
import Derived.WalkSpells
import Derived.Outline
import Derived.Deep.RegionHeld3
import Derived.BigQuiet
import Derived.OwnWalk
import Derived.RangeFuncOwn
set_option linter.unusedVariables false
set_option linter.unusedSimpArgs false
namespace Go.Proofs.Ytgjdpgmffhihnaa
open Go.RowKit Go.Maps
namespace F
/-- two floats, by == -/
def feq (a b : Nat) : Bool := Op.floatEq .f64 a b
theorem order_symm (a b : Ieee.Datum) (h : a.order b = some .eq) : b.order a = some .eq := by
  cases a <;> cases b <;> simp only [Ieee.Datum.order, Option.some.injEq, reduceCtorEq] at h ⊢
  · rename_i s m i t n j
    rw [Int.min_comm]
    exact (Std.compare_eq_iff_eq.2 (Std.compare_eq_iff_eq.1 h).symm)
  · rename_i s m i t
    cases t <;> simp at h
  · rename_i s t n j
    cases s <;> simp at h
  · exact (Std.compare_eq_iff_eq.2 (Std.compare_eq_iff_eq.1 h).symm)
theorem order_self (a b : Ieee.Datum) (h : a.order b = some .eq) : b.order b = some .eq := by
  cases a <;> cases b <;> simp [Ieee.Datum.order] at h ⊢
theorem feq_true {a b : Nat} : feq a b = true ↔ (FloatKind.f64.format.read a).order (FloatKind.f64.format.read b) = some .eq := by
  unfold feq Op.floatEq Ieee.Format.order
  simp
theorem feq_symm (a b : Nat) : feq a b = feq b a := by
  rw [Bool.eq_iff_iff, feq_true, feq_true]
  exact ⟨order_symm _ _, order_symm _ _⟩
theorem feq_self {a b : Nat} (h : feq a b = true) : feq b b = true := feq_true.2 (order_self _ _ (feq_true.1 h))
theorem feq_self' {a b : Nat} (h : feq a b = true) : feq a a = true := feq_self (by rw [feq_symm]; exact h)

/-- a float's number among the things; 0: it has none -/
def pos (k : Nat) : List Nat → Nat
  | [] => 0
  | z :: r => if feq z k then 1 else if pos k r = 0 then 0 else pos k r + 1
theorem pos_le (k : Nat) (zs : List Nat) : pos k zs ≤ zs.length := by
  induction zs with
  | nil => simp [pos]
  | cons z r ih => simp only [pos, List.length_cons]; split <;> (try split) <;> omega
theorem pos_snoc (k : Nat) (zs : List Nat) (z : Nat) : pos k (zs ++ [z]) = if pos k zs = 0 then (if feq z k then zs.length + 1 else 0) else pos k zs := by
  induction zs with
  | nil => simp [pos]
  | cons y r ih =>
    simp only [List.cons_append, pos, ih, List.length_cons]
    by_cases h1 : feq y k = true
    · simp [h1]
    · by_cases h2 : pos k r = 0
      · by_cases h3 : feq z k = true <;> simp [h1, h2, h3]
      · simp [h1, h2]
/-- what the map's entries are -/
def ents : Nat → List Nat → List (Value × Value)
  | _, [] => []
  | i, z :: r => if feq z z then (.float .f64 z, .int .i64 ((i : Int) + 1)) :: ents (i + 1) r else ents (i + 1) r
theorem ents_snoc (zs : List Nat) (i z : Nat) : ents i (zs ++ [z]) = ents i zs ++ (if feq z z then [(.float .f64 z, .int .i64 (((i + zs.length : Nat) : Int) + 1))] else []) := by
  induction zs generalizing i with
  | nil => simp [ents]
  | cons y r ih =>
    simp only [List.cons_append, ents, ih, List.length_cons]
    rw [show i + 1 + r.length = i + (r.length + 1) from by omega]
    split <;> simp

theorem equalIn_run (w : World) (d a b : Nat) : (Op.equalIn (d + 1) 39 (.float .f64 a) (.float .f64 b)).run Try.prog w = .ok (feq a b) w := by
  unfold Op.equalIn
  simp [run_underlying Try.underlying39, feq]
theorem equal_run (w : World) (a b : Nat) : (Op.equal 39 (.float .f64 a) (.float .f64 b)).run Try.prog w = .ok (feq a b) w := equalIn_run w 9999 a b

theorem asking (w : World) (k : Nat) : ∀ (zs : List Nat) (es : List MapEntry) (i n0 : Nat), es.map (fun e => (e.key, e.val)) = ents n0 zs →
    ∃ r, (Instr.findAsking 39 (.float .f64 k) es i).run Try.prog w = .ok r w ∧ r.map (·.2) = if pos k zs = 0 then none else some (.int .i64 ((n0 + pos k zs : Nat) : Int)) := by
  intro zs
  induction zs with
  | nil =>
    intro es i n0 h
    simp only [ents, List.map_eq_nil_iff] at h
    subst h
    exact ⟨none, by simp [Instr.findAsking], by simp [pos]⟩
  | cons z r ih =>
    intro es i n0 h
    by_cases hz : feq z z = true
    · simp only [ents, hz, if_true] at h
      cases es with
      | nil => simp at h
      | cons e es' =>
        simp only [List.map_cons, List.cons.injEq, Prod.mk.injEq] at h
        obtain ⟨⟨h1, h2⟩, h3⟩ := h
        have hq := equal_run w k z
        by_cases hk : feq k z = true
        · refine ⟨some (i, e.val), ?_, ?_⟩
          · simp [Instr.findAsking, h1, hq, hk]
          · have : feq z k = true := by rw [feq_symm]; exact hk
            simp [pos, this, h2]
        · have hk' : feq k z = false := by simpa using hk
          have hk2 : feq z k = false := by rw [feq_symm]; exact hk'
          obtain ⟨q, q1, q2⟩ := ih es' (i + 1) (n0 + 1) h3
          refine ⟨q, ?_, ?_⟩
          · simp [Instr.findAsking, h1, hq, hk', q1]
          · rw [q2]
            simp only [pos, hk2]
            by_cases hp : pos k r = 0
            · simp [hp]
            · simp [hp]; omega
    · have hz' : feq z z = false := by simpa using hz
      have hk2 : feq z k = false := by
        by_cases hk : feq z k = true
        · exact absurd (feq_self' hk) hz
        · simpa using hk
      simp only [ents, hz'] at h
      obtain ⟨q, q1, q2⟩ := ih es i (n0 + 1) h
      refine ⟨q, q1, ?_⟩
      rw [q2]
      simp only [pos, hk2]
      by_cases hp : pos k r = 0
      · simp [hp]
      · simp [hp]; omega

theorem find_run (w : World) (k : Nat) (zs : List Nat) (es : List MapEntry) (h : es.map (fun e => (e.key, e.val)) = ents 0 zs) :
    ∃ r, (Instr.findKey 39 (.float .f64 k) es).run Try.prog w = .ok r w ∧ r.map (·.2) = if pos k zs = 0 then none else some (.int .i64 ((pos k zs : Nat) : Int)) := by
  obtain ⟨r, h1, h2⟩ := asking w k zs es 0 0 h
  refine ⟨r, ?_, by simpa using h2⟩
  unfold Instr.findKey
  cases es with
  | nil =>
    simp [Instr.findAsking] at h1
    subst h1
    simp [run_underlying Try.underlying39, Instr.findNow]
  | cons e es' =>
    simp [run_underlying Try.underlying39, Instr.findNow, Instr.sameNow, h1]

theorem check_run (w : World) (em : Bool) (k : Nat) : (Instr.checkKey em 10000 39 (.float .f64 k)).run Try.prog w = .ok () w := by
  rw [show (10000 : Nat) = 9999 + 1 from rfl]
  unfold Instr.checkKey
  simp [run_underlying Try.underlying39]

/-- block bm is a map that holds what of the things is a number -/
def FMap (w : World) (bm : Nat) (zs : List Nat) : Prop := ∃ es clock, w.heap[bm]? = some (.map es clock) ∧ es.toList.map (fun e => (e.key, e.val)) = ents 0 zs
theorem zeroI (w : World) : (zeroValue 3).run Try.prog w = .ok (.int .i64 0) w := by kernel_rfl
theorem look {w : World} {bm : Nat} {zs : List Nat} (h : FMap w bm zs) (k : Nat) :
    (Instr.lookup 77 (.map (some bm)) (.float .f64 k) true).run Try.prog w = .ok (.tuple #[.int .i64 ((pos k zs : Nat) : Int), .bool (decide (pos k zs ≠ 0))]) w := by
  obtain ⟨es, clock, hb, he⟩ := h
  obtain ⟨r, h1, h2⟩ := find_run w k zs es.toList he
  have hg : (getObj bm).run Try.prog w = .ok (.map es clock) w := by simp [getObj, Sem.run, hb]
  by_cases hp : pos k zs = 0
  · simp only [hp, if_true, Option.map_eq_none_iff] at h2
    subst h2
    simp [Instr.lookup, run_underlying Try.underlying77, hg, check_run, h1, zeroI, hp]
  · simp only [hp, if_false, Option.map_eq_some_iff] at h2
    obtain ⟨⟨j, v⟩, rfl, h3⟩ := h2
    simp only at h3
    subst h3
    simp [Instr.lookup, run_underlying Try.underlying77, hg, check_run, h1, hp]
theorem put {w : World} {bm : Nat} {zs : List Nat} (h : FMap w bm zs) (k : Nat) (hp : pos k zs = 0) (hk : feq k k = true) :
    ∃ w', (Instr.mapUpdate 77 (.map (some bm)) (.float .f64 k) (.int .i64 ((zs.length : Int) + 1))).run Try.prog w = .ok () w' ∧ FMap w' bm (zs ++ [k]) ∧ w.grownBy w' (some bm) := by
  obtain ⟨es, clock, hb, he⟩ := h
  obtain ⟨r, h1, h2⟩ := find_run w k zs es.toList he
  simp only [hp, if_true, Option.map_eq_none_iff] at h2
  subst h2
  have hg : (getObj bm).run Try.prog w = .ok (.map es clock) w := by simp [getObj, Sem.run, hb]
  refine ⟨w.putObj bm (.map (es.push { key := .float .f64 k, val := .int .i64 ((zs.length : Int) + 1), born := clock }) (clock + 1)), ?_, ⟨es.push { key := .float .f64 k, val := .int .i64 ((zs.length : Int) + 1), born := clock }, clock + 1, ?_, ?_⟩, grownBy_putObj' _ _ _⟩
  · simp [Instr.mapUpdate, run_underlying Try.underlying77, hg, check_run, h1, setObj, Sem.run, World.putObj, hb]
  · exact World.putObj_heap_same (Array.getElem?_eq_some_iff.1 hb).1
  · rw [ents_snoc]
    simp [he, hk]
end F
end Go.Proofs.Ytgjdpgmffhihnaa
