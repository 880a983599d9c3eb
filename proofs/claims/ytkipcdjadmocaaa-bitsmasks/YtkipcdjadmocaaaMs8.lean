import Derived.Test.YtkipcdjadmocaaaApW8
import Derived.Test.YtkipcdjadmocaaaFdW
import Derived.Test.YtkipcdjadmocaaaRefM3
set_option linter.unusedVariables false
set_option linter.unusedSimpArgs false
namespace Go.Proofs.Ytkipcdjadmocaaa
open Go.RowKit
namespace A8
def nl (l : List Nat) : List Int := l.map fun (i : Nat) => (i : Int)
theorem nl_len (l : List Nat) : (nl l).length = l.length := by simp [nl]
theorem ivs_nl (l : List Nat) : ivs (nl l) = i8s l := by simp [ivs, nl, i8s]
/-- a row made between two sizes of the heap -/
structure Rg (lo hi : Nat) (r : Rw) (l : List Nat) (w : World) : Prop where
  ln : r.len = l.length
  own : w.ownsRow lo 40 1 (.slice r.ao r.len r.cap) r.len (ivs (nl l))
  lt : ∀ j, At r.ao j → j < hi
variable {lo hi : Nat} {r : Rw} {l : List Nat} {w w' : World}
theorem Rg.turn {S : Nat → Prop} (h : Rg lo hi r l w) (t : Turn S w w') (hn : ∀ j, lo ≤ j → j < hi → ¬ S j) : Rg lo hi r l w' :=
  ⟨h.ln, t.row h.own (fun j hj => hn j (row_kind h.own (own_at hj)).1 (h.lt j (own_at hj))), h.lt⟩
theorem Rg.below (h : Rg lo hi r l w) (b : Below w.heap.size w w') : Rg lo hi r l w' := h.turn (turn_below (S := fun _ => False) b) (fun _ _ _ q => q)
theorem Rg.lo_ (h : Rg lo hi r l w) {j : Nat} (hj : At r.ao j) : lo ≤ j := (row_kind h.own hj).1
theorem Rg.is8 (h : Rg lo hi r l w) : Is8s w r.ao r.len r.cap l := by
  have o := h.own
  have hl := h.ln
  rcases o.2 with ⟨hv, h0⟩ | ⟨g, cap', cur, hv, hb, hg, h1, h2, h3, h4⟩
  · simp only [Value.slice.injEq] at hv
    obtain ⟨e1, e2, e3⟩ := hv
    rw [e1, e3, h0]
    exact ⟨Nat.le_refl _, by unfold maxLen; omega, by omega, .inl rfl⟩
  · simp only [Value.slice.injEq] at hv
    obtain ⟨e1, _, e3⟩ := hv
    rw [e1, e3] at o ⊢
    refine ⟨h1, h2, hl.symm, .inr ⟨g, 0, rfl, lt_of_heap hg, fun j hj => ?_⟩⟩
    have := row_cell o j (.int .i8 ((l.getD j 0 : Nat) : Int)) (by rw [ivs_nl]; simp [i8s, List.getD, show j < l.length by omega])
    rw [addOff, Nat.zero_add] at this
    rw [Nat.zero_add]
    exact this
theorem list_rg (m : Nat) (w : World) (hm : m < 65536) : Calls Try.prog 16 #[.int .u16 (m : Nat)] w fun e w' => ∃ r, e = .returned (.slice r.ao r.len r.cap) ∧ Rg w.heap.size w'.heap.size r (lst m 16) w' ∧ Below w.heap.size w w' := by
  refine (list_any m w hm).mono ?_
  rintro e w' ⟨t, rc, rfl, h1, h2⟩
  rw [← ivs_nl] at h1
  exact ⟨⟨some ⟨t, 0, none⟩, _, rc⟩, rfl, ⟨rfl, h1, fun j hj => by obtain ⟨_, _, cs, r, hh⟩ := row_kind h1 hj; exact lt_of_heap hh⟩, h2⟩
theorem rlist_rg (m : Nat) (w : World) (hm : m < 65536) : Calls Try.prog 15 #[.int .u16 (m : Nat)] w fun e w' => ∃ r, e = .returned (.slice r.ao r.len r.cap) ∧ Rg w.heap.size w'.heap.size r (lst m 16) w' ∧ Below w.heap.size w w' := by
  refine (rlist_any m w hm).mono ?_
  rintro e w' ⟨ro, rc, rfl, h1, h2⟩
  rw [← ivs_nl] at h1
  exact ⟨⟨ro, _, rc⟩, rfl, ⟨rfl, h1, fun j hj => by obtain ⟨_, _, cs, r, hh⟩ := row_kind h1 hj; exact lt_of_heap hh⟩, h2⟩
theorem same_rg {lo2 hi2 : Nat} {r2 : Rw} (h : Rg lo hi r l w) (h2 : Rg lo2 hi2 r2 l w) : Calls Try.prog 17 #[.slice r.ao r.len r.cap, .slice r2.ao r2.len r2.cap] w fun e w' => e = .returned (.bool true) ∧ ∃ n, w' = w.drewN n := by
  have e : r2.len = r.len := h2.ln.trans h.ln.symm
  have k := h2.is8
  rw [e] at k ⊢
  exact same8_any r.ao r2.ao r.len r.cap r2.cap l w h.is8 k
theorem row_lower {w : World} {B B' : Nat} {e size n : Nat} {v : Value} {xs : List Value} (h : w.ownsRow B e size v n xs) (hb : B' ≤ B) : w.ownsRow B' e size v n xs := by
  obtain ⟨h1, h2⟩ := h
  refine ⟨h1, ?_⟩
  rcases h2 with h2 | ⟨g, cap, cur, hv, hg, rest⟩
  · exact .inl h2
  · exact .inr ⟨g, cap, cur, hv, Nat.le_trans hb hg, rest⟩
def g5 (r1 r2 r3 r4 r5 : Rw) : Nat → Rw
  | 0 => r1
  | 1 => r2
  | 2 => r3
  | 3 => r4
  | _ => r5
def x5 (x1 x2 x3 x4 x5 : List Int) : Nat → List Int
  | 0 => x1
  | 1 => x2
  | 2 => x3
  | 3 => x4
  | _ => x5
def x5' (x1 x2 x3 x4 x5 : Nat) : Nat → Nat
  | 0 => x1
  | 1 => x2
  | 2 => x3
  | 3 => x4
  | _ => x5
theorem lt5 {P : Nat → Prop} (h0 : P 0) (h1 : P 1) (h2 : P 2) (h3 : P 3) (h4 : P 4) : ∀ i, i < 5 → P i := by
  intro i hi
  match i, hi with
  | 0, _ => exact h0
  | 1, _ => exact h1
  | 2, _ => exact h2
  | 3, _ => exact h3
  | 4, _ => exact h4
theorem sl5 {b : Nat} {rr : Nat × Nat} {r1 r2 r3 r4 r5 : Rw} (h : w.heap[b]? = some (.cells #[r1.v, r2.v, r3.v, r4.v, r5.v] 42 rr)) : Sl w (some ⟨b, 0, none⟩) 5 (fun i => (g5 r1 r2 r3 r4 r5 i).v) := by
  refine .inr ⟨b, 0, _, _, rfl, h, lt5 ?_ ?_ ?_ ?_ ?_⟩ <;> (rw [Lib.cell_of_heap h]; rfl)
theorem five {s2 s3 s4 s5 s6 s7 : Nat} {r1 r2 r3 r4 r5 : Rw} {a b : List Nat} {s0 : Nat} {W : World} (h1 : Rg s2 s3 r1 a W) (h2 : Rg s3 s4 r2 a W) (h3 : Rg s4 s5 r3 b W) (h4 : Rg s5 s6 r4 b W) (h5 : Rg s6 s7 r5 a W)
    (o : s0 ≤ s2 ∧ s2 ≤ s3 ∧ s3 ≤ s4 ∧ s4 ≤ s5 ∧ s5 ≤ s6 ∧ s6 ≤ s7 ∧ s7 ≤ W.heap.size) (hal : a.length ≤ 16) (hbl : b.length ≤ 16) (V : World) (hV : V = W.alloc (.cells #[r1.v, r2.v, r3.v, r4.v, r5.v] 42)) :
    Calls Try.prog 18 #[.slice (some ⟨W.heap.size, 0, none⟩) 5 5] V fun e w' => e = .returned (.bool true) ∧ Below s0 W w' := by
  obtain ⟨o0, o2, o3, o4, o5, o6, o7⟩ := o
  have t0 : Turn (fun _ => False) W V := by rw [hV]; exact (Turn.refl _ W).alloc _
  have k0 : V.heap[W.heap.size]? = some (.cells #[r1.v, r2.v, r3.v, r4.v, r5.v] 42 (0, 0)) := by
    rw [hV]
    exact heap_alloc_new W _
  have nf : ∀ j : Nat, ¬ (fun _ : Nat => False) j := fun _ q => q
  have z : W.heap.size ≤ V.heap.size := t0.size
  have h1' := h1.turn t0 (fun j _ _ => nf j)
  have h2' := h2.turn t0 (fun j _ _ => nf j)
  have h3' := h3.turn t0 (fun j _ _ => nf j)
  have h4' := h4.turn t0 (fun j _ _ => nf j)
  have h5' := h5.turn t0 (fun j _ _ => nf j)
  have pos : ∀ i, i < 5 → ∀ j, At (g5 r1 r2 r3 r4 r5 i).ao j → x5' s2 s3 s4 s5 s6 i ≤ j ∧ j < x5' s3 s4 s5 s6 s7 i := lt5 (fun j hj => ⟨h1.lo_ hj, h1.lt j hj⟩) (fun j hj => ⟨h2.lo_ hj, h2.lt j hj⟩) (fun j hj => ⟨h3.lo_ hj, h3.lt j hj⟩) (fun j hj => ⟨h4.lo_ hj, h4.lt j hj⟩) (fun j hj => ⟨h5.lo_ hj, h5.lt j hj⟩)
  have low : ∀ j, Ds 5 (g5 r1 r2 r3 r4 r5) j → s2 ≤ j := by
    rintro j ⟨i, hi, hj⟩
    refine Nat.le_trans ?_ (pos i hi j hj).1
    exact (lt5 (P := fun i => s2 ≤ x5' s2 s3 s4 s5 s6 i) (by simp only [x5']; omega) (by simp only [x5']; omega) (by simp only [x5']; omega) (by simp only [x5']; omega) (by simp only [x5']; omega)) i hi
  have hR : Rows s0 5 (g5 r1 r2 r3 r4 r5) (x5 (nl a) (nl a) (nl b) (nl b) (nl a)) V := lt5 (row_lower h1'.own (by omega)) (row_lower h2'.own (by omega)) (row_lower h3'.own (by omega)) (row_lower h4'.own (by omega)) (row_lower h5'.own (by omega))
  have hD : Dj 5 (g5 r1 r2 r3 r4 r5) := by
    intro i hi k hk j hj hj'
    have p1 := pos i hi j hj
    have p2 := pos k hk j hj'
    clear pos low hR
    have : i = 0 ∨ i = 1 ∨ i = 2 ∨ i = 3 ∨ i = 4 := by omega
    have : k = 0 ∨ k = 1 ∨ k = 2 ∨ k = 3 ∨ k = 4 := by omega
    rcases ‹i = 0 ∨ _› with rfl | rfl | rfl | rfl | rfl <;> rcases ‹k = 0 ∨ _› with rfl | rfl | rfl | rfl | rfl <;> simp only [x5'] at p1 p2 <;> omega
  refine (apart_any (B := s0) (N := 5) (some ⟨W.heap.size, 0, none⟩) 5 (g5 r1 r2 r3 r4 r5) (x5 (nl a) (nl a) (nl b) (nl b) (nl a)) V (by omega) (by omega) (sl5 k0) hR hD (lt5 (by show r1.len ≤ _; rw [h1.ln]; omega) (by show r2.len ≤ _; rw [h2.ln]; omega) (by show r3.len ≤ _; rw [h3.ln]; omega) (by show r4.len ≤ _; rw [h4.ln]; omega) (by show r5.len ≤ _; rw [h5.ln]; omega))).mono ?_
  rintro e w' ⟨rfl, t⟩
  refine ⟨rfl, ?_⟩
  exact ((t0.mono (S' := Ds 5 (g5 r1 r2 r3 r4 r5)) (fun _ _ q => q.elim)).trans t).below (fun k q => by have := low k q; omega) (by omega)
theorem spr_agg (m : Nat) : spr m = agg16 (bt m) := rfl
end A8
end Go.Proofs.Ytkipcdjadmocaaa
