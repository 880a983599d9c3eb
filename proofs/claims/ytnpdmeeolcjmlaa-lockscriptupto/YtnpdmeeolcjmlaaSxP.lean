import Derived.Test.YtnpdmeeolcjmlaaRls
import Derived.Test.YtnpdmeeolcjmlaaOwnW
set_option linter.unusedVariables false
set_option linter.unusedSimpArgs false
namespace Go.Proofs.Ytnpdmeeolcjmlaa
open Go.RowKit
namespace C
open M F
/-- a waiter of the program's, and the document's beside it -/
structure Wp where
  b : Nat
  q : Nat
  l : Nat
  t : Int
  has : Bool
  ho : Bool
def ptr (b : Nat) : Value := .pointer (some ⟨b, 0, none⟩)
/-- the kinds of a scene's own blocks -/
def SK (T : TypeId) : Prop := T = 49 ∨ T = 26 ∨ T = 71 ∨ T = 79 ∨ T = 29 ∨ T = 84 ∨ T = 73 ∨ T = 94
theorem Pr.not {U : Nat → Prop} {B x y m : Nat} {ws : List Int} {tr : List Ac} {bad : Nat} {w : World} (h : Pr U B x y ws m tr bad w) {j : Nat} {cs : Array Value} {T : TypeId} {z : Nat × Nat} (ho : w.heap[j]? = some (.cells cs T z)) (hk : SK T ∨ T = 52) : ¬ U j := by
  obtain ⟨D, R, h1, h2, h3, h4⟩ := h
  intro hj
  have hn : (T ≠ 68 ∧ T ≠ 3 ∧ T ≠ 83) ∧ (T ≠ 77 ∧ T ≠ 100 ∧ T ≠ 83) := by
    rcases hk with (rfl | rfl | rfl | rfl | rfl | rfl | rfl | rfl) | rfl <;> decide
  rcases (h4 j).1 hj with q | q
  · exact h1.not ho hn.1 q
  · exact h2.not ho hn.2 q
structure Sx (w0 : World) (x y s lb l1 l2 k nx sv : Nat) (ps : List Wp) (bw bq : List Nat) (wo : Option Addr) (wc : Nat) (qo : Option Addr) (qc : Nat) (w : World) : Prop where
  hs : w.heap[s]? = some (.cells #[.pointer (some ⟨x, 0, none⟩), .slice (some ⟨lb, 0, none⟩) 2 2, .slice wo bw.length wc, .pointer (some ⟨y, 0, none⟩), .pointer (some ⟨k, 0, none⟩), .slice qo bq.length qc] 49 (0, 0))
  hL : w.heap[lb]? = some (.cells #[.pointer (some ⟨l1, 0, none⟩), .pointer (some ⟨l2, 0, none⟩)] 26 (0, 0))
  k1 : Lk l1 x nx sv w
  k2 : Lk l2 x nx sv w
  rk : RLk k y nx sv w
  rw : w.ownsRow w0.heap.size 29 1 (.slice wo bw.length wc) bw.length (bw.map ptr)
  rq : w.ownsRow w0.heap.size 84 1 (.slice qo bq.length qc) bq.length (bq.map ptr)
  wt : ∀ (i : Nat) (p : Wp), ps[i]? = some p → (p.l = l1 ∨ p.l = l2) ∧ Wt p.b p.l p.t p.has p.ho w ∧ RWt p.q k p.t p.has p.ho w ∧ (p.has = false → p.ho = false ∧ p.t = -1) ∧ w0.heap.size ≤ p.b ∧ w0.heap.size ≤ p.q
  one : ∀ (i j : Nat) (p u : Wp), ps[i]? = some p → ps[j]? = some u → (p.b = u.b ∨ p.q = u.q) → i = j
  ls : w0.heap.size ≤ s
variable {w0 w w' : World} {x y s lb l1 l2 k nx sv : Nat} {ps : List Wp} {bw bq : List Nat} {wo qo : Option Addr} {wc qc : Nat}
theorem row_at2 {B e size n cap : Nat} {ao : Option Addr} {xs : List Value} (h : w.ownsRow B e size (.slice ao n cap) n xs) {j : Nat} (hj : At ao j) : B ≤ j ∧ j < w.heap.size ∧ ∃ cs, w.heap[j]? = some (.cells cs e (0, 0)) := row_at h hj
/-- nothing of the scene's turns, but for one waiter's two blocks -/
theorem Sx.turn (h : Sx w0 x y s lb l1 l2 k nx sv ps bw bq wo wc qo qc w) {S : Nat → Prop} {i : Nat} {p : Wp} (hi : ps[i]? = some p) (t : Turn S w w') (hS : ∀ (j : Nat) (cs : Array Value) (T : TypeId) (z : Nat × Nat), w.heap[j]? = some (.cells cs T z) → S j → ¬ SK T ∨ j = p.b ∨ j = p.q) {t' : Int} {has' ho' : Bool} (hw : Wt p.b p.l t' has' ho' w') (hr : RWt p.q k t' has' ho' w') (hh : has' = false → ho' = false ∧ t' = -1) :
    Sx w0 x y s lb l1 l2 k nx sv (ps.set i ⟨p.b, p.q, p.l, t', has', ho'⟩) bw bq wo wc qo qc w' := by
  have hil := (List.getElem?_eq_some_iff.1 hi).1
  obtain ⟨hpl, hpw, hpr, _, hpb, hpq⟩ := h.wt i p hi
  have nin : ∀ {j : Nat} {cs : Array Value} {T : TypeId} {z : Nat × Nat}, w.heap[j]? = some (.cells cs T z) → SK T → T ≠ 73 → T ≠ 94 → ¬ S j := fun hj hk n1 n2 q => by
    rcases hS _ _ _ _ hj q with e | e | e
    · exact e hk
    · exact cells_ne hj hpw n1 e
    · exact cells_ne hj hpr n2 e
  have get : ∀ (j : Nat) (u : Wp), (ps.set i ⟨p.b, p.q, p.l, t', has', ho'⟩)[j]? = some u → (j = i ∧ u = ⟨p.b, p.q, p.l, t', has', ho'⟩) ∨ (j ≠ i ∧ ps[j]? = some u) := by
    intro j u hu
    by_cases e : j = i
    · subst e
      rw [List.getElem?_set_self hil] at hu
      exact .inl ⟨rfl, (Option.some.inj hu).symm⟩
    · rw [List.getElem?_set_ne (fun z => e z.symm)] at hu
      exact .inr ⟨e, hu⟩
  refine ⟨(t.block s (lt_of_heap h.hs) (nin h.hs (.inl rfl) (by decide) (by decide))).trans h.hs, (t.block lb (lt_of_heap h.hL) (nin h.hL (.inr (.inl rfl)) (by decide) (by decide))).trans h.hL, h.k1.kept t (nin h.k1 (.inr (.inr (.inl rfl))) (by decide) (by decide)), h.k2.kept t (nin h.k2 (.inr (.inr (.inl rfl))) (by decide) (by decide)), h.rk.kept t (nin h.rk (.inr (.inr (.inr (.inl rfl)))) (by decide) (by decide)), t.row h.rw (fun j hj => ?_), t.row h.rq (fun j hj => ?_), fun j u hu => ?_, fun j m u v hu hv e => ?_, h.ls⟩
  · obtain ⟨_, _, cs, h'⟩ := row_at h.rw (own_at hj)
    exact nin h' (.inr (.inr (.inr (.inr (.inl rfl))))) (by decide) (by decide)
  · obtain ⟨_, _, cs, h'⟩ := row_at h.rq (own_at hj)
    exact nin h' (.inr (.inr (.inr (.inr (.inr (.inl rfl)))))) (by decide) (by decide)
  · rcases get j u hu with ⟨rfl, rfl⟩ | ⟨hne, hu'⟩
    · exact ⟨hpl, hw, hr, hh, hpb, hpq⟩
    · obtain ⟨q1, q2, q3, q4, q5, q6⟩ := h.wt j u hu'
      refine ⟨q1, q2.kept t (fun z => ?_), q3.kept t (fun z => ?_), q4, q5, q6⟩
      · rcases hS _ _ _ _ q2 z with e | e | e
        · exact e (by unfold SK; simp)
        · exact hne (h.one j i u p hu' hi (.inl e))
        · exact cells_ne q2 hpr (by decide) e
      · rcases hS _ _ _ _ q3 z with e | e | e
        · exact e (by unfold SK; simp)
        · exact cells_ne q3 hpw (by decide) e
        · exact hne (h.one j i u p hu' hi (.inr e))
  · rcases get j u hu with ⟨rfl, rfl⟩ | ⟨hne, hu'⟩ <;> rcases get m v hv with ⟨rfl, rfl⟩ | ⟨hne2, hv'⟩
    · rfl
    · exact h.one j m p v hi hv' e
    · exact h.one j m u p hu' hi e
    · exact h.one j m u v hu' hv' e
theorem Sx.kept (h : Sx w0 x y s lb l1 l2 k nx sv ps bw bq wo wc qo qc w) {S : Nat → Prop} (t : Turn S w w') (hS : ∀ (j : Nat) (cs : Array Value) (T : TypeId) (z : Nat × Nat), w.heap[j]? = some (.cells cs T z) → S j → ¬ SK T) : Sx w0 x y s lb l1 l2 k nx sv ps bw bq wo wc qo qc w' := by
  have nin : ∀ {j : Nat} {cs : Array Value} {T : TypeId} {z : Nat × Nat}, w.heap[j]? = some (.cells cs T z) → SK T → ¬ S j := fun hj hk q => hS _ _ _ _ hj q hk
  refine ⟨(t.block s (lt_of_heap h.hs) (nin h.hs (.inl rfl))).trans h.hs, (t.block lb (lt_of_heap h.hL) (nin h.hL (.inr (.inl rfl)))).trans h.hL, h.k1.kept t (nin h.k1 (.inr (.inr (.inl rfl)))), h.k2.kept t (nin h.k2 (.inr (.inr (.inl rfl)))), h.rk.kept t (nin h.rk (.inr (.inr (.inr (.inl rfl))))), t.row h.rw (fun j hj => ?_), t.row h.rq (fun j hj => ?_), fun j u hu => ?_, h.one, h.ls⟩
  · obtain ⟨_, _, cs, h'⟩ := row_at h.rw (own_at hj)
    exact nin h' (.inr (.inr (.inr (.inr (.inl rfl)))))
  · obtain ⟨_, _, cs, h'⟩ := row_at h.rq (own_at hj)
    exact nin h' (.inr (.inr (.inr (.inr (.inr (.inl rfl))))))
  · obtain ⟨q1, q2, q3, q4, q5, q6⟩ := h.wt j u hu
    exact ⟨q1, q2.kept t (nin q2 (by unfold SK; simp)), q3.kept t (nin q3 (by unfold SK; simp)), q4, q5, q6⟩
theorem Sx.below (h : Sx w0 x y s lb l1 l2 k nx sv ps bw bq wo wc qo qc w) (b : Below w.heap.size w w') : Sx w0 x y s lb l1 l2 k nx sv ps bw bq wo wc qo qc w' := h.kept (turn_below (S := fun _ => False) b) (fun _ _ _ _ _ q => q.elim)
/-- behind an access of the program's memory -/
theorem Sx.mem (h : Sx w0 x y s lb l1 l2 k nx sv ps bw bq wo wc qo qc w) {D : Nat → Prop} {B x' : Nat} {ws : List Int} {tr : List Ac} {bad : Nat} (hm : Mem D B x' ws tr bad w) (t : Turn D w w') : Sx w0 x y s lb l1 l2 k nx sv ps bw bq wo wc qo qc w' := h.kept t (fun j cs T z hj q hk => by
  obtain ⟨cs', t', h1, h2⟩ := hm.kind q
  rw [hj] at h1
  cases h1
  revert hk
  unfold SK
  rcases h2 with rfl | rfl | rfl <;> decide)
theorem Sx.rem (h : Sx w0 x y s lb l1 l2 k nx sv ps bw bq wo wc qo qc w) {D : Nat → Prop} {B y' m : Nat} {ws : List Int} {tr : List Ac} {bad : Nat} (hm : Rem D B y' ws m tr bad w) (t : Turn D w w') : Sx w0 x y s lb l1 l2 k nx sv ps bw bq wo wc qo qc w' := h.kept t (fun j cs T z hj q hk => by
  obtain ⟨cs', t', h1, h2⟩ := hm.kind q
  rw [hj] at h1
  cases h1
  revert hk
  unfold SK
  rcases h2 with rfl | rfl | rfl <;> decide)
theorem Sx.c0 (h : Sx w0 x y s lb l1 l2 k nx sv ps bw bq wo wc qo qc w) : w.cell? ⟨s, 0, none⟩ = some (.pointer (some ⟨x, 0, none⟩)) := by rw [Lib.cell_of_heap h.hs]; rfl
theorem Sx.c1 (h : Sx w0 x y s lb l1 l2 k nx sv ps bw bq wo wc qo qc w) : w.cell? ⟨s, 1, none⟩ = some (.slice (some ⟨lb, 0, none⟩) 2 2) := by rw [Lib.cell_of_heap h.hs]; rfl
theorem Sx.c2 (h : Sx w0 x y s lb l1 l2 k nx sv ps bw bq wo wc qo qc w) : w.cell? ⟨s, 2, none⟩ = some (.slice wo bw.length wc) := by rw [Lib.cell_of_heap h.hs]; rfl
theorem Sx.c3 (h : Sx w0 x y s lb l1 l2 k nx sv ps bw bq wo wc qo qc w) : w.cell? ⟨s, 3, none⟩ = some (.pointer (some ⟨y, 0, none⟩)) := by rw [Lib.cell_of_heap h.hs]; rfl
theorem Sx.c4 (h : Sx w0 x y s lb l1 l2 k nx sv ps bw bq wo wc qo qc w) : w.cell? ⟨s, 4, none⟩ = some (.pointer (some ⟨k, 0, none⟩)) := by rw [Lib.cell_of_heap h.hs]; rfl
theorem Sx.c5 (h : Sx w0 x y s lb l1 l2 k nx sv ps bw bq wo wc qo qc w) : w.cell? ⟨s, 5, none⟩ = some (.slice qo bq.length qc) := by rw [Lib.cell_of_heap h.hs]; rfl
theorem Sx.f (h : Sx w0 x y s lb l1 l2 k nx sv ps bw bq wo wc qo qc w) (j : Nat) : w.frozen? ⟨s, j, none⟩ = false := Lib.frozen_of_heap h.hs j
theorem Sx.lk (h : Sx w0 x y s lb l1 l2 k nx sv ps bw bq wo wc qo qc w) (e : Nat) (he : e < 2) : ∃ l, (l = l1 ∨ l = l2) ∧ Lk l x nx sv w ∧ w.cell? ⟨lb, e, none⟩ = some (.pointer (some ⟨l, 0, none⟩)) := by
  have : e = 0 ∨ e = 1 := by omega
  rcases this with rfl | rfl
  · exact ⟨l1, .inl rfl, h.k1, by rw [Lib.cell_of_heap h.hL]; rfl⟩
  · exact ⟨l2, .inr rfl, h.k2, by rw [Lib.cell_of_heap h.hL]; rfl⟩
theorem ptr_cell {B e n cap i : Nat} {ao : Option Addr} {bs : List Nat} {b : Nat} (h : w.ownsRow B e 1 (.slice ao n cap) n (bs.map ptr)) (hi : bs[i]? = some b) : ∃ g, ao = some ⟨g, 0, none⟩ ∧ w.cell? ⟨g, i, none⟩ = some (.pointer (some ⟨b, 0, none⟩)) := by
  have hl : i < n := by
    have h1 := h.1
    have h2 := (List.getElem?_eq_some_iff.1 hi).1
    rw [List.length_map] at h1
    omega
  obtain ⟨g, cap', hv, _, _⟩ := h.form (by omega)
  simp only [Value.slice.injEq] at hv
  obtain ⟨rfl, _, rfl⟩ := hv
  refine ⟨g, rfl, ?_⟩
  have := row_cell h i (ptr b) (by simp [hi])
  rw [show (⟨g, 0, none⟩ : Addr).add i = ⟨g, i, none⟩ by unfold Addr.add; split <;> simp_all] at this
  exact this
/-- a row of the scene's grows, and its cell is written -/
theorem Sx.addW (h : Sx w0 x y s lb l1 l2 k nx sv ps bw bq wo wc qo qc w) {b gg cap' : Nat} {w1 : World} (hr1 : w1.ownsRow w0.heap.size 29 1 (.slice (some ⟨gg, 0, none⟩) (bw.length + 1) cap') (bw.length + 1) (bw.map ptr ++ [ptr b])) (t : Turn (At wo) w w1) : Sx w0 x y s lb l1 l2 k nx sv ps (bw ++ [b]) bq (some ⟨gg, 0, none⟩) cap' qo qc (w1.setCell ⟨s, 2, none⟩ (.slice (some ⟨gg, 0, none⟩) (bw.length + 1) cap')) := by
  have far : ∀ {j : Nat} {cs : Array Value} {T : TypeId} {z : Nat × Nat}, w.heap[j]? = some (.cells cs T z) → T ≠ 29 → T ≠ 49 → ¬ (At wo j ∨ j = s) := fun hj n1 n2 q => by
    rcases q with q | q
    · obtain ⟨_, _, cs', h'⟩ := row_at h.rw q
      exact cells_ne hj h' n1 rfl
    · exact cells_ne hj h.hs n2 q
  have hs1 := (t.block s (lt_of_heap h.hs) (fun q => by obtain ⟨_, _, cs', h'⟩ := row_at h.rw q; exact cells_ne h.hs h' (by decide) rfl)).trans h.hs
  have tt : Turn (fun j => At wo j ∨ j = s) w (w1.setCell ⟨s, 2, none⟩ (.slice (some ⟨gg, 0, none⟩) (bw.length + 1) cap')) := (t.mono (fun j _ z => .inl z)).trans ((turn_b s 2 _ w1).mono (fun j _ z => .inr z))
  refine ⟨?_, (tt.block lb (lt_of_heap h.hL) (far h.hL (by decide) (by decide))).trans h.hL, h.k1.kept tt (far h.k1 (by decide) (by decide)), h.k2.kept tt (far h.k2 (by decide) (by decide)), h.rk.kept tt (far h.rk (by decide) (by decide)), ?_, tt.row h.rq (fun j hj => ?_), fun j u hu => ?_, h.one, h.ls⟩
  · rw [List.length_append]
    exact set_block (off := 2) (v := .slice (some ⟨gg, 0, none⟩) (bw.length + 1) cap') hs1
  · rw [List.length_append, List.map_append]
    refine (turn_b s 2 _ w1).row hr1 (fun j hj e => ?_)
    have e1 : gg = j := by simpa [Value.ownBlock] using hj
    obtain ⟨_, _, cs', h'⟩ := row_at hr1 ⟨_, rfl, rfl⟩
    exact cells_ne h' hs1 (by decide) (e1.trans e)
  · obtain ⟨_, _, cs, h'⟩ := row_at h.rq (own_at hj)
    exact far h' (by decide) (by decide)
  · obtain ⟨q1, q2, q3, q4, q5, q6⟩ := h.wt j u hu
    exact ⟨q1, q2.kept tt (far q2 (by decide) (by decide)), q3.kept tt (far q3 (by decide) (by decide)), q4, q5, q6⟩
theorem Sx.addQ (h : Sx w0 x y s lb l1 l2 k nx sv ps bw bq wo wc qo qc w) {b gg cap' : Nat} {w1 : World} (hr1 : w1.ownsRow w0.heap.size 84 1 (.slice (some ⟨gg, 0, none⟩) (bq.length + 1) cap') (bq.length + 1) (bq.map ptr ++ [ptr b])) (t : Turn (At qo) w w1) : Sx w0 x y s lb l1 l2 k nx sv ps bw (bq ++ [b]) wo wc (some ⟨gg, 0, none⟩) cap' (w1.setCell ⟨s, 5, none⟩ (.slice (some ⟨gg, 0, none⟩) (bq.length + 1) cap')) := by
  have far : ∀ {j : Nat} {cs : Array Value} {T : TypeId} {z : Nat × Nat}, w.heap[j]? = some (.cells cs T z) → T ≠ 84 → T ≠ 49 → ¬ (At qo j ∨ j = s) := fun hj n1 n2 q => by
    rcases q with q | q
    · obtain ⟨_, _, cs', h'⟩ := row_at h.rq q
      exact cells_ne hj h' n1 rfl
    · exact cells_ne hj h.hs n2 q
  have hs1 := (t.block s (lt_of_heap h.hs) (fun q => by obtain ⟨_, _, cs', h'⟩ := row_at h.rq q; exact cells_ne h.hs h' (by decide) rfl)).trans h.hs
  have tt : Turn (fun j => At qo j ∨ j = s) w (w1.setCell ⟨s, 5, none⟩ (.slice (some ⟨gg, 0, none⟩) (bq.length + 1) cap')) := (t.mono (fun j _ z => .inl z)).trans ((turn_b s 5 _ w1).mono (fun j _ z => .inr z))
  refine ⟨?_, (tt.block lb (lt_of_heap h.hL) (far h.hL (by decide) (by decide))).trans h.hL, h.k1.kept tt (far h.k1 (by decide) (by decide)), h.k2.kept tt (far h.k2 (by decide) (by decide)), h.rk.kept tt (far h.rk (by decide) (by decide)), tt.row h.rw (fun j hj => ?_), ?_, fun j u hu => ?_, h.one, h.ls⟩
  · rw [List.length_append]
    exact set_block (off := 5) (v := .slice (some ⟨gg, 0, none⟩) (bq.length + 1) cap') hs1
  · obtain ⟨_, _, cs, h'⟩ := row_at h.rw (own_at hj)
    exact far h' (by decide) (by decide)
  · rw [List.length_append, List.map_append]
    refine (turn_b s 5 _ w1).row hr1 (fun j hj e => ?_)
    have e1 : gg = j := by simpa [Value.ownBlock] using hj
    obtain ⟨_, _, cs', h'⟩ := row_at hr1 ⟨_, rfl, rfl⟩
    exact cells_ne h' hs1 (by decide) (e1.trans e)
  · obtain ⟨q1, q2, q3, q4, q5, q6⟩ := h.wt j u hu
    exact ⟨q1, q2.kept tt (far q2 (by decide) (by decide)), q3.kept tt (far q3 (by decide) (by decide)), q4, q5, q6⟩
/-- a waiter more -/
theorem Sx.addP (h : Sx w0 x y s lb l1 l2 k nx sv ps bw bq wo wc qo qc w) {b q l : Nat} (hl : l = l1 ∨ l = l2) (hw : Wt b l (-1) false false w) (hr : RWt q k (-1) false false w) (hb : w0.heap.size ≤ b) (hq : w0.heap.size ≤ q) (hn : ∀ (i : Nat) (p : Wp), ps[i]? = some p → p.b ≠ b ∧ p.q ≠ q) : Sx w0 x y s lb l1 l2 k nx sv (ps ++ [⟨b, q, l, -1, false, false⟩]) bw bq wo wc qo qc w := by
  have get : ∀ (j : Nat) (u : Wp), (ps ++ [(⟨b, q, l, -1, false, false⟩ : Wp)])[j]? = some u → (j = ps.length ∧ u = ⟨b, q, l, -1, false, false⟩) ∨ (ps[j]? = some u) := by
    intro j u hu
    by_cases hj : j < ps.length
    · rw [List.getElem?_append_left hj] at hu
      exact .inr hu
    · rw [List.getElem?_append_right (by omega)] at hu
      have hz : j - ps.length = 0 := by
        rcases Nat.eq_zero_or_pos (j - ps.length) with z | z
        · exact z
        · rw [List.getElem?_eq_none (by simp; omega)] at hu; cases hu
      rw [hz] at hu
      exact .inl ⟨by omega, (Option.some.inj hu).symm⟩
  refine ⟨h.hs, h.hL, h.k1, h.k2, h.rk, h.rw, h.rq, fun j u hu => ?_, fun j m u v hu hv e => ?_, h.ls⟩
  · rcases get j u hu with ⟨rfl, rfl⟩ | hu'
    · exact ⟨hl, hw, hr, fun _ => ⟨rfl, rfl⟩, hb, hq⟩
    · exact h.wt j u hu'
  · rcases get j u hu with ⟨rfl, rfl⟩ | hu' <;> rcases get m v hv with ⟨rfl, rfl⟩ | hv'
    · rfl
    · exfalso
      rcases e with e | e
      · exact (hn m v hv').1 e.symm
      · exact (hn m v hv').2 e.symm
    · exfalso
      rcases e with e | e
      · exact (hn j u hu').1 e
      · exact (hn j u hu').2 e
    · exact h.one j m u v hu' hv' e
/-- behind N steps -/
def Sn (w0 : World) (n x y s lb l1 l2 k nx sv N : Nat) (w : World) : Prop := Below w0.heap.size w0 w ∧ ∃ U ws tr bad ps wo wc qo qc, Pr U w0.heap.size x y ws N tr bad w ∧ ws.length = n ∧ tr.length ≤ N ∧ ps.length ≤ N ∧ Sx w0 x y s lb l1 l2 k nx sv ps (ps.map (·.b)) (ps.map (·.q)) wo wc qo qc w
set_option maxRecDepth 100000 in
set_option maxHeartbeats 1000000 in
theorem pick_big (k n : Int) (w : World) (hn : 0 < n) (hn2 : n ≤ 4000000) : Calls Try.prog 13 #[.int .i64 k, .int .i64 n] w fun e w' => e = .returned (.int .i64 (k % n)) ∧ w' = w := by
  by_cases h : k < 0
  · obtain ⟨t1, t2, t3, t4⟩ := tmod_neg h hn
    by_cases hz : k.tmod n < 0
    · rw [t3 hz]
      clear t3 t4 h
      go_enter Try.func13, Try.ntmps13
      go_wp2
      go_ret
      exact ⟨rfl, rfl⟩
    · have e := t4 (by omega)
      have e2 : k.tmod n = 0 := by omega
      rw [e]
      clear t3 t4 h e
      go_enter Try.func13, Try.ntmps13
      go_wp2
      go_ret
      exact ⟨rfl, rfl⟩
  · have h3 := Int.emod_nonneg k (b := n) (by omega)
    go_enter Try.func13, Try.ntmps13
    go_wp2
    go_ret
    exact ⟨rfl, rfl⟩
end C
end Go.Proofs.Ytnpdmeeolcjmlaa
