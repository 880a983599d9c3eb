import Derived.Test.YtbbopkhgmgdlfaaEp4
set_option linter.unusedVariables false
set_option linter.unusedSimpArgs false
namespace Go.Proofs.Ytbbopkhgmgdlfaa
open Go.RowKit
namespace A
open M
/-- what stays: the world ahead, the memory, the addresses, the slots, the grace period -/
structure Cst where
  w0 : World
  x : Nat
  e : Nat
  f : Nat
  n : Nat
  sl : Nat
  gb : Nat
theorem row_atk {w : World} {B e size n cap : Nat} {ao : Option Addr} {xs : List Value} (h : w.ownsRow B e size (.slice ao n cap) n xs) {j : Nat} (hj : At ao j) : B ≤ j ∧ j < w.heap.size ∧ ∃ cs, w.heap[j]? = some (.cells cs e (0, 0)) := by
  obtain ⟨a, rfl, rfl⟩ := hj
  rcases h.2 with ⟨hv, _⟩ | ⟨g', cap', cur, hv, hb, hg', _⟩
  · cases hv
  · simp only [Value.slice.injEq, Option.some.injEq] at hv
    obtain ⟨rfl, _, _⟩ := hv
    exact ⟨hb, lt_of_heap hg', cur, hg'⟩
/-- a memory, slots, a grace period, a row of entries -/
structure An (c : Cst) (D : Nat → Prop) (ws : List Int) (tr : List Ac) (bad : Nat) (si nx : Int) (wt : List Ac) (ao : Option Addr) (cap : Nat) (W : World) : Prop where
  mem : Mem D c.w0.heap.size c.x ws tr bad W
  sl : Sl c.sl c.x c.e c.f c.n W
  gr : Gr c.gb c.x c.e c.f c.n si nx W
  row : W.ownsRow c.w0.heap.size 75 5 (.slice ao wt.length cap) wt.length (wt.flatMap Ac.cells)
  dis : ∀ j, At ao j → ¬ D j
  bel : Below c.w0.heap.size c.w0 W
  lg : c.w0.heap.size ≤ c.gb
variable {c : Cst} {D : Nat → Prop} {ws ws' : List Int} {tr tr' : List Ac} {bad bad' : Nat} {si nx si' nx' : Int} {wt : List Ac} {ao : Option Addr} {cap : Nat} {W W' : World}
theorem An.below (h : An c D ws tr bad si nx wt ao cap W) (b : Below W.heap.size W W') : An c D ws tr bad si nx wt ao cap W' := by
  have t0 := turn_below (S := fun _ => False) b
  exact ⟨h.mem.below b, h.sl.below b, h.gr.below b, t0.row h.row (fun _ _ z => z), h.dis, h.bel.trans (b.mono h.bel.size), h.lg⟩
/-- a step on the memory, with one block beside it -/
theorem An.sec {sb s : Nat} {md sn md' sn' : Int} (h : An c D ws tr bad si nx wt ao cap W) (hs : Sc sb c.x c.e c.f c.n s md sn W) (hb : c.w0.heap.size ≤ sb) (k : BTo D c.w0.heap.size c.x sb ws' tr' bad' (scc c.x c.e c.f c.n s md' sn') 115 W W') : ∃ D', An c D' ws' tr' bad' si nx wt ao cap W' ∧ Sc sb c.x c.e c.f c.n s md' sn' W' := by
  obtain ⟨D', hm, hw, t, q⟩ := k
  refine ⟨D', ⟨hm, h.sl.kept t (fun z => ?_), h.gr.kept t (fun z => ?_), t.row h.row (fun j hj z => ?_), fun j hj z => ?_, h.bel.trans (t.below (fun j hj => ?_) h.bel.size), h.lg⟩, hw⟩
  · rcases z with z | z
    · exact h.mem.not h.sl (by decide) z
    · exact cells_ne h.sl hs (by decide) z
  · rcases z with z | z
    · exact h.mem.not h.gr (by decide) z
    · exact cells_ne h.gr hs (by decide) z
  · obtain ⟨_, _, cs', h'⟩ := row_atk h.row (own_at hj)
    rcases z with z | z
    · exact h.dis j (own_at hj) z
    · exact cells_ne h' hs (by decide) z
  · obtain ⟨_, hl, _⟩ := row_atk h.row hj
    rcases q j z with y | y
    · exact h.dis j hj y
    · omega
  · rcases hj with z | z
    · exact (h.mem.lo z).1
    · omega
theorem An.gra (h : An c D ws tr bad si nx wt ao cap W) (k : BTo D c.w0.heap.size c.x c.gb ws' tr' bad' (grc c.x c.e c.f c.n si' nx') 113 W W') : (∃ D', An c D' ws' tr' bad' si' nx' wt ao cap W') ∧ ∀ {sb s : Nat} {md sn : Int}, Sc sb c.x c.e c.f c.n s md sn W → Sc sb c.x c.e c.f c.n s md sn W' := by
  obtain ⟨D', hm, hw, t, q⟩ := k
  refine ⟨⟨D', ⟨hm, h.sl.kept t (fun z => ?_), hw, t.row h.row (fun j hj z => ?_), fun j hj z => ?_, h.bel.trans (t.below (fun j hj => ?_) h.bel.size), h.lg⟩⟩, fun {sb s md sn} hs => hs.kept t (fun z => ?_)⟩
  · rcases z with z | z
    · exact h.mem.not h.sl (by decide) z
    · exact cells_ne h.sl h.gr (by decide) z
  · obtain ⟨_, _, cs', h'⟩ := row_atk h.row (own_at hj)
    rcases z with z | z
    · exact h.dis j (own_at hj) z
    · exact cells_ne h' h.gr (by decide) z
  · obtain ⟨_, hl, _⟩ := row_atk h.row hj
    rcases q j z with y | y
    · exact h.dis j hj y
    · omega
  · rcases hj with z | z
    · exact (h.mem.lo z).1
    · have := h.lg; omega
  · rcases z with z | z
    · exact h.mem.not hs (by decide) z
    · exact cells_ne hs h.gr (by decide) z
theorem An.to (h : An c D ws tr bad si nx wt ao cap W) (k : To D c.w0.heap.size c.x ws' tr' bad' W W') : (∃ D', An c D' ws' tr' bad' si nx wt ao cap W') ∧ ∀ {sb s : Nat} {md sn : Int}, Sc sb c.x c.e c.f c.n s md sn W → Sc sb c.x c.e c.f c.n s md sn W' := by
  obtain ⟨D', hm, t, q⟩ := k
  refine ⟨⟨D', ⟨hm, h.sl.kept t (h.mem.not h.sl (by decide)), h.gr.kept t (h.mem.not h.gr (by decide)), t.row h.row (fun j hj z => h.dis j (own_at hj) z), fun j hj z => ?_, h.bel.trans (t.below (fun j hj => (h.mem.lo hj).1) h.bel.size), h.lg⟩⟩, fun {sb s md sn} hs => hs.kept t (h.mem.not hs (by decide))⟩
  obtain ⟨_, hl, _⟩ := row_atk h.row hj
  rcases q j z with y | y
  · exact h.dis j hj y
  · omega
theorem An.drewN (h : An c D ws tr bad si nx wt ao cap W) (k : Nat) : An c D ws tr bad si nx wt ao cap (W.drewN k) := h.below ⟨rfl, rfl, rfl, Nat.le_refl _, fun _ _ => rfl⟩
/-- slots, a section and a period are made -/
theorem An.start {w0 w1 w2 w3 : World} {x e f n : Nat} (hm : Mem D w0.heap.size x ws tr bad w1) (b1 : Below w0.heap.size w0 w1)
    (h2 : w2 = w1.alloc (.cells #[.pointer (some ⟨x, 0, none⟩), .int .i64 (e : Nat), .int .i64 (f : Nat), .int .i64 (n : Nat)] 90)) (h3 : w3 = w2.alloc (.cells #[.pointer (some ⟨x, 0, none⟩), .int .i64 (e : Nat), .int .i64 (f : Nat), .int .i64 (n : Nat), .int .i64 0, .int .i64 (-1)] 113)) :
    An ⟨w0, x, e, f, n, w1.heap.size, w2.heap.size⟩ D ws tr bad 0 (-1) [] none 0 w3 := by
  have t2 : Below w1.heap.size w1 w2 := by rw [h2]; exact (Below.refl _ _).alloc (Nat.le_refl _) _
  have t3 : Below w2.heap.size w2 w3 := by rw [h3]; exact (Below.refl _ _).alloc (Nat.le_refl _) _
  have s2 : Sl w1.heap.size x e f n w2 := by rw [h2]; exact snew_sl x e f n w1
  have g3 : Gr w2.heap.size x e f n 0 (-1) w3 := by rw [h3]; exact wait_gr x e f n w2
  have b2 := b1.trans (t2.mono b1.size)
  exact ⟨(hm.below t2).below t3, s2.below t3, g3, World.ownsRow_nil _ _ _ _, fun j hj => (by obtain ⟨a, ha, _⟩ := hj; cases ha), b2.trans (t3.mono b2.size), b2.size⟩
end A
end Go.Proofs.Ytbbopkhgmgdlfaa
