import Derived.Test.YtjmkofdnlhfaiaaRaG
import Derived.Test.YtjmkofdnlhfaiaaAvL
import Derived.Test.YtjmkofdnlhfaiaaAvI
set_option linter.unusedVariables false
set_option linter.unusedSimpArgs false
namespace Go.Proofs.Ytjmkofdnlhfaiaa
open Go.RowKit
namespace C
variable {w w' w0 : World}
/-- one side of the law: nothing, or a pair with at most K calls counted; D are its blocks -/
def Sid (B0 K : Nat) (pc pr : Option Addr) (D : Nat → Prop) (w : World) : Prop := (pc = none ∧ pr = none ∧ ∀ j, ¬ D j) ∨ ∃ B c g n v b r hb s lo, pc = some ⟨c, 0, none⟩ ∧ pr = some ⟨r, 0, none⟩ ∧ B0 ≤ B ∧ Pr B c g n v b r hb s lo w ∧ s.hi + s.mi + s.ev ≤ K ∧ ∀ j, D j ↔ PB c g n b r hb lo j
variable {B0 K : Nat} {pc pr : Option Addr} {D : Nat → Prop}
theorem Pr.lo {B c g n v : Nat} {b : Nat → Nat} {r hb : Nat} {s : St} {lo : Option Addr} (h : Pr B c g n v b r hb s lo w) {j : Nat} (hj : PB c g n b r hb lo j) : B ≤ j ∧ j < w.heap.size := by
  rcases hj with hj | hj
  · exact h.ca.lo hj
  · obtain ⟨L, lc, hr⟩ := h.rf
    exact hr.low hj
theorem Sid.kept {S : Nat → Prop} (h : Sid B0 K pc pr D w) (t : Turn S w w') (hn : ∀ j, D j → ¬ S j) : Sid B0 K pc pr D w' := by
  rcases h with h | ⟨B, c, g, n, v, b, r, hb, s, lo, h1, h2, h3, h4, h5, h6⟩
  · exact .inl h
  · exact .inr ⟨B, c, g, n, v, b, r, hb, s, lo, h1, h2, h3, h4.kept t (fun j hj => hn j ((h6 j).2 hj)), h5, h6⟩
theorem Sid.below (h : Sid B0 K pc pr D w) (q : Below w.heap.size w w') : Sid B0 K pc pr D w' := h.kept (turn_below (S := fun _ => False) q) (fun _ _ z => z)
theorem Sid.lo (h : Sid B0 K pc pr D w) {j : Nat} (hj : D j) : B0 ≤ j ∧ j < w.heap.size := by
  rcases h with ⟨_, _, h⟩ | ⟨B, c, g, n, v, b, r, hb, s, lo, h1, h2, h3, h4, h5, h6⟩
  · exact (h j hj).elim
  · have := h4.lo ((h6 j).1 hj)
    exact ⟨by omega, this.2⟩
/-- the box of a side -/
def Bo2 (x : Nat) (pc pr : Option Addr) (w : World) : Prop := w.heap[x]? = some (.cells #[.pointer pc, .pointer pr] 40 (0, 0))
theorem Bo2.c0 {x : Nat} (h : Bo2 x pc pr w) : w.cell? ⟨x, 0, none⟩ = some (.pointer pc) := by rw [Lib.cell_of_heap h]; rfl
theorem Bo2.c1 {x : Nat} (h : Bo2 x pc pr w) : w.cell? ⟨x, 1, none⟩ = some (.pointer pr) := by rw [Lib.cell_of_heap h]; rfl
theorem Sid.not {x : Nat} {pc' pr' : Option Addr} (h : Sid B0 K pc pr D w) (hb : Bo2 x pc' pr' w) : ¬ D x := fun hj => by
  rcases h with ⟨_, _, h⟩ | ⟨B, c, g, n, v, b, r, hb', s, lo, h1, h2, h3, h4, h5, h6⟩
  · exact h x hj
  · exact h4.not hb (by decide) (by decide) ((h6 x).1 hj)
/-- the two sides -/
def Tw (w0 : World) (x y : Nat) (pc pr pc' pr' : Option Addr) (K1 K2 : Nat) (w : World) : Prop := ∃ D1 D2, Sid w0.heap.size K1 pc pr D1 w ∧ Sid w0.heap.size K2 pc' pr' D2 w ∧ (∀ j, D1 j → ¬ D2 j) ∧ Below w0.heap.size w0 w ∧ Bo2 x pc pr w ∧ Bo2 y pc' pr' w
variable {x y : Nat} {pc' pr' : Option Addr} {K1 K2 : Nat}
theorem Tw.swap (h : Tw w0 x y pc pr pc' pr' K1 K2 w) : Tw w0 y x pc' pr' pc pr K2 K1 w := by
  obtain ⟨D1, D2, a, b, c, d, e, f⟩ := h
  exact ⟨D2, D1, b, a, fun j h1 h2 => c j h2 h1, d, f, e⟩
theorem Tw.bel (h : Tw w0 x y pc pr pc' pr' K1 K2 w) : Below w0.heap.size w0 w := by
  obtain ⟨D1, D2, a, b, c, d, e, f⟩ := h; exact d
theorem Tw.bx (h : Tw w0 x y pc pr pc' pr' K1 K2 w) : Bo2 x pc pr w := by
  obtain ⟨D1, D2, a, b, c, d, e, f⟩ := h; exact e
theorem Tw.by' (h : Tw w0 x y pc pr pc' pr' K1 K2 w) : Bo2 y pc' pr' w := by
  obtain ⟨D1, D2, a, b, c, d, e, f⟩ := h; exact f
theorem Sid.mono {K' : Nat} (h : Sid B0 K pc pr D w) (hK : K ≤ K') : Sid B0 K' pc pr D w := by
  rcases h with h | ⟨B, c, g, n, v, b, r, hb, s, lo, h1, h2, h3, h4, h5, h6⟩
  · exact .inl h
  · exact .inr ⟨B, c, g, n, v, b, r, hb, s, lo, h1, h2, h3, h4, by omega, h6⟩
theorem Tw.mono {A C : Nat} (h : Tw w0 x y pc pr pc' pr' K1 K2 w) (h1 : K1 ≤ A) (h2 : K2 ≤ C) : Tw w0 x y pc pr pc' pr' A C w := by
  obtain ⟨D1, D2, a, b, c, d, e, f⟩ := h
  exact ⟨D1, D2, a.mono h1, b.mono h2, c, d, e, f⟩
theorem Tw.below (h : Tw w0 x y pc pr pc' pr' K1 K2 w) (q : Below w.heap.size w w') : Tw w0 x y pc pr pc' pr' K1 K2 w' := by
  obtain ⟨D1, D2, a, b, c, d, e, f⟩ := h
  exact ⟨D1, D2, a.below q, b.below q, c, d.trans (q.mono d.size), (q.block x (lt_of_heap e)).trans e, (q.block y (lt_of_heap f)).trans f⟩
/-- a call on the first side -/
theorem Tw.one (h : Tw w0 x y pc pr pc' pr' K1 K2 w) (hp : pr ≠ none) (hK : K1 < 9007199254740990) (z : Act) : Calls Try.prog 16 #[.agg #[.pointer pc, .pointer pr], .agg #[.int .i64 z.d, .int .i64 z.tag, .int .i64 z.t.s, .int .i64 z.t.o, .int .i64 z.t.a, .bool z.al]] w fun e w' => e = .returned (.bool true) ∧ Tw w0 x y pc pr pc' pr' (K1 + 1) K2 w' := by
  obtain ⟨D1, D2, a, b, c, d, e, f⟩ := h
  have hx1 := a.not e
  have hy1 := a.not f
  have alo := fun j (hj : D1 j) => a.lo hj
  rcases a with ⟨_, q, _⟩ | ⟨B, cc, g, n, v, bb, r, hb, s, lo, rfl, rfl, h3, h4, h5, h6⟩
  · exact (hp q).elim
  · refine (act_any z h4 (by omega)).mono (fun ee w1 ⟨he, s', ⟨lo', p1, t1, g1⟩, hs⟩ => ⟨he, ?_⟩)
    have t1' : Turn D1 w w1 := t1.mono (fun j _ hj => (h6 j).2 hj)
    refine ⟨PB cc g n bb r hb lo', D2, .inr ⟨B, cc, g, n, v, bb, r, hb, s', lo', rfl, rfl, h3, p1, by omega, fun j => Iff.rfl⟩, b.kept t1' (fun j hj q => c j q hj), fun j hj q => ?_, d.trans (t1'.below (fun j hj => (alo j hj).1) d.size), (t1'.block x (lt_of_heap e) hx1).trans e, (t1'.block y (lt_of_heap f) hy1).trans f⟩
    rcases g1 j hj with z | z
    · exact c j ((h6 j).2 z) q
    · have := (b.lo q).2; omega
theorem Tw.two (h : Tw w0 x y pc pr pc' pr' K1 K2 w) (hp : pr' ≠ none) (hK : K2 < 9007199254740990) (z : Act) : Calls Try.prog 16 #[.agg #[.pointer pc', .pointer pr'], .agg #[.int .i64 z.d, .int .i64 z.tag, .int .i64 z.t.s, .int .i64 z.t.o, .int .i64 z.t.a, .bool z.al]] w fun e w' => e = .returned (.bool true) ∧ Tw w0 x y pc pr pc' pr' K1 (K2 + 1) w' :=
  (h.swap.one hp hK z).mono (fun e w' ⟨a, b⟩ => ⟨a, b.swap⟩)
theorem st0_sum : st0.hi + st0.mi + st0.ev = 0 := rfl
/-- what is made is a side -/
theorem Mk.sid {B : Nat} (h : Mk B pc pr w w') (hB : B0 ≤ B) : ∃ D, Sid B0 0 pc pr D w' ∧ ∀ j, D j → B ≤ j := by
  rcases h with ⟨h1, h2⟩ | ⟨c, g, n, v, b, r, hb, h1, h2, h3⟩
  · exact ⟨fun _ => False, .inl ⟨h1, h2, fun _ q => q⟩, fun j q => q.elim⟩
  · exact ⟨PB c g n b r hb none, .inr ⟨B, c, g, n, v, b, r, hb, st0, none, h1, h2, hB, h3, by rw [st0_sum]; exact Nat.le_refl _, fun j => Iff.rfl⟩, fun j hj => (h3.lo hj).1⟩
end C
end Go.Proofs.Ytjmkofdnlhfaiaa
