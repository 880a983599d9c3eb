import Derived.Test.YtpacooibmdbeaaaRrW
set_option linter.unusedVariables false
set_option linter.unusedSimpArgs false
namespace Go.Proofs.Ytpacooibmdbeaaa
open Go.RowKit
namespace A
open C F
/-- a row made between two sizes of the heap -/
structure Rg (lo hi : Nat) (r : Rw) (zs : List Int) (w : World) : Prop where
  ln : r.len = zs.length
  own : w.ownsRow lo 3 1 (.slice r.ao r.len r.cap) r.len (ivs zs)
  lt : ∀ j, At r.ao j → j < hi
variable {lo hi : Nat} {r : Rw} {zs : List Int} {w w' : World}
theorem Rg.turn {S : Nat → Prop} (h : Rg lo hi r zs w) (t : Turn S w w') (hn : ∀ j, lo ≤ j → j < hi → ¬ S j) : Rg lo hi r zs w' :=
  ⟨h.ln, t.row h.own (fun j hj => hn j (row_kind h.own (own_at hj)).1 (h.lt j (own_at hj))), h.lt⟩
theorem Rg.below (h : Rg lo hi r zs w) (b : Below w.heap.size w w') : Rg lo hi r zs w' := h.turn (turn_below (S := fun _ => False) b) (fun _ _ _ q => q)
theorem Rg.ints (h : Rg lo hi r zs w) : Ints w r.ao zs := by
  have q := h.own
  rw [h.ln] at q
  exact Ints.of_row q
theorem Rg.lo_ (h : Rg lo hi r zs w) {j : Nat} (hj : At r.ao j) : lo ≤ j := (row_kind h.own hj).1
theorem round_rg (t n : Int) (w : World) : Calls Try.prog 25 #[.int .i64 t, .int .i64 n] w fun e w' => ∃ r, e = .returned (.slice r.ao r.len r.cap) ∧ Rg w.heap.size w'.heap.size r (rr t n) w' ∧ Below w.heap.size w w' := by
  refine (round_any t n w).mono ?_
  rintro e w' ⟨ro, rc, rfl, h1, h2⟩
  exact ⟨⟨ro, _, rc⟩, rfl, ⟨rfl, h1, fun j hj => by obtain ⟨_, _, cs, r, hh⟩ := row_kind h1 hj; exact lt_of_heap hh⟩, h2⟩
theorem rround_rg (t n : Int) (w : World) : Calls Try.prog 24 #[.int .i64 t, .int .i64 n] w fun e w' => ∃ r, e = .returned (.slice r.ao r.len r.cap) ∧ Rg w.heap.size w'.heap.size r (rr t n) w' ∧ Below w.heap.size w w' := by
  refine (rround_any t n w).mono ?_
  rintro e w' ⟨ro, rc, rfl, h1, h2⟩
  exact ⟨⟨ro, _, rc⟩, rfl, ⟨rfl, h1, fun j hj => by obtain ⟨_, _, cs, r, hh⟩ := row_kind h1 hj; exact lt_of_heap hh⟩, h2⟩
def g5 (r1 r2 r3 r4 r5 : Rw) : Nat → Rw
  | 0 => r1
  | 1 => r2
  | 2 => r3
  | 3 => r4
  | _ => r5
def x5 (x1 x2 x3 x4 x5 : List Int) : Nat → List Int
  | 0 => x1
  | 1 => x2
  | 2 => x3
  | 3 => x4
  | _ => x5
def x5' (x1 x2 x3 x4 x5 : Nat) : Nat → Nat
  | 0 => x1
  | 1 => x2
  | 2 => x3
  | 3 => x4
  | _ => x5
theorem lt5 {P : Nat → Prop} (h0 : P 0) (h1 : P 1) (h2 : P 2) (h3 : P 3) (h4 : P 4) : ∀ i, i < 5 → P i := by
  intro i hi
  match i, hi with
  | 0, _ => exact h0
  | 1, _ => exact h1
  | 2, _ => exact h2
  | 3, _ => exact h3
  | 4, _ => exact h4
theorem sl5 {b : Nat} {rr : Nat × Nat} {r1 r2 r3 r4 r5 : Rw} (h : w.heap[b]? = some (.cells #[r1.v, r2.v, r3.v, r4.v, r5.v] 23 rr)) : Sl w (some ⟨b, 0, none⟩) 5 (fun i => (g5 r1 r2 r3 r4 r5 i).v) := by
  refine .inr ⟨b, 0, _, _, rfl, h, lt5 ?_ ?_ ?_ ?_ ?_⟩ <;> (rw [Lib.cell_of_heap h]; rfl)
theorem five {s1 s2 s3 s4 s5 s6 s7 : Nat} {ra rb r1 r2 r3 r4 r5 : Rw} {a b : List Int} {s0 : Nat} {W : World} (ha : Rg s0 s1 ra a W) (hb : Rg s1 s2 rb b W) (h1 : Rg s2 s3 r1 a W) (h2 : Rg s3 s4 r2 a W) (h3 : Rg s4 s5 r3 b W) (h4 : Rg s5 s6 r4 a W) (h5 : Rg s6 s7 r5 a W)
    (o : s0 ≤ s1 ∧ s1 ≤ s2 ∧ s2 ≤ s3 ∧ s3 ≤ s4 ∧ s4 ≤ s5 ∧ s5 ≤ s6 ∧ s6 ≤ s7 ∧ s7 ≤ W.heap.size) (hal : a.length ≤ 1048576) (hbl : b.length ≤ 1048576) (V : World) (hV : V = (W.alloc (.cells #[r1.v, r2.v, r3.v, r4.v, r5.v] 23)).alloc (.cells #[ra.v, ra.v, rb.v, ra.v, ra.v] 23)) :
    Calls Try.prog 18 #[.slice (some ⟨W.heap.size, 0, none⟩) 5 5, .slice (some ⟨W.heap.size + 1, 0, none⟩) 5 5] V fun e w' => e = .returned (.bool true) ∧ Rg s0 s1 ra a w' ∧ Below s0 W w' := by
  obtain ⟨o0, o1, o2, o3, o4, o5, o6, o7⟩ := o
  have t0 : Turn (fun _ => False) W V := by rw [hV]; exact ((Turn.refl _ W).alloc _).alloc _
  have k0 : V.heap[W.heap.size]? = some (.cells #[r1.v, r2.v, r3.v, r4.v, r5.v] 23 (0, 0)) := by
    rw [hV, Below.heap_alloc _ _ _ (by simp)]
    exact heap_alloc_new W _
  have k1 : V.heap[W.heap.size + 1]? = some (.cells #[ra.v, ra.v, rb.v, ra.v, ra.v] 23 (0, 0)) := by
    rw [hV]
    have := heap_alloc_new (W.alloc (.cells #[r1.v, r2.v, r3.v, r4.v, r5.v] 23)) (.cells #[ra.v, ra.v, rb.v, ra.v, ra.v] 23)
    simpa using this
  have nf : ∀ j : Nat, ¬ (fun _ : Nat => False) j := fun _ q => q
  have z : W.heap.size ≤ V.heap.size := t0.size
  have ha' := ha.turn t0 (fun j _ _ => nf j)
  have hb' := hb.turn t0 (fun j _ _ => nf j)
  have h1' := h1.turn t0 (fun j _ _ => nf j)
  have h2' := h2.turn t0 (fun j _ _ => nf j)
  have h3' := h3.turn t0 (fun j _ _ => nf j)
  have h4' := h4.turn t0 (fun j _ _ => nf j)
  have h5' := h5.turn t0 (fun j _ _ => nf j)
  -- where each row lies
  have pos : ∀ i, i < 5 → ∀ j, At (g5 r1 r2 r3 r4 r5 i).ao j → x5' s2 s3 s4 s5 s6 i ≤ j ∧ j < x5' s3 s4 s5 s6 s7 i := lt5 (fun j hj => ⟨h1.lo_ hj, h1.lt j hj⟩) (fun j hj => ⟨h2.lo_ hj, h2.lt j hj⟩) (fun j hj => ⟨h3.lo_ hj, h3.lt j hj⟩) (fun j hj => ⟨h4.lo_ hj, h4.lt j hj⟩) (fun j hj => ⟨h5.lo_ hj, h5.lt j hj⟩)
  have low : ∀ j, Ds 5 (g5 r1 r2 r3 r4 r5) j → s2 ≤ j := by
    rintro j ⟨i, hi, hj⟩
    refine Nat.le_trans ?_ (pos i hi j hj).1
    exact (lt5 (P := fun i => s2 ≤ x5' s2 s3 s4 s5 s6 i) (by simp only [x5']; omega) (by simp only [x5']; omega) (by simp only [x5']; omega) (by simp only [x5']; omega) (by simp only [x5']; omega)) i hi
  have hR : Rows s0 5 (g5 r1 r2 r3 r4 r5) (x5 a a b a a) V := lt5 (row_lower h1'.own (by omega)) (row_lower h2'.own (by omega)) (row_lower h3'.own (by omega)) (row_lower h4'.own (by omega)) (row_lower h5'.own (by omega))
  have hD : Dj 5 (g5 r1 r2 r3 r4 r5) := by
    intro i hi k hk j hj hj'
    have p1 := pos i hi j hj
    have p2 := pos k hk j hj'
    clear pos low hR
    have : i = 0 ∨ i = 1 ∨ i = 2 ∨ i = 3 ∨ i = 4 := by omega
    have : k = 0 ∨ k = 1 ∨ k = 2 ∨ k = 3 ∨ k = 4 := by omega
    rcases ‹i = 0 ∨ _› with rfl | rfl | rfl | rfl | rfl <;> rcases ‹k = 0 ∨ _› with rfl | rfl | rfl | rfl | rfl <;> simp only [x5'] at p1 p2 <;> omega
  have va : Ints V ra.ao a ∧ ra.len = a.length ∧ (a ≠ [] → ∀ j, At ra.ao j → ¬ Ds 5 (g5 r1 r2 r3 r4 r5) j) := ⟨ha'.ints, ha.ln, fun _ j hj q => by have := low j q; have := ha.lt j hj; omega⟩
  have vb : Ints V rb.ao b ∧ rb.len = b.length ∧ (b ≠ [] → ∀ j, At rb.ao j → ¬ Ds 5 (g5 r1 r2 r3 r4 r5) j) := ⟨hb'.ints, hb.ln, fun _ j hj q => by have := low j q; have := hb.lt j hj; omega⟩
  refine (apart_any (B := s0) (N := 5) (some ⟨W.heap.size, 0, none⟩) 5 (some ⟨W.heap.size + 1, 0, none⟩) 5 (g5 r1 r2 r3 r4 r5) (g5 ra ra rb ra ra) (x5 a a b a a) V (by omega) (by omega) (sl5 k0) (sl5 k1) hR hD (lt5 va va vb va va) (lt5 (by show r1.len ≤ _; rw [h1.ln]; omega) (by show r2.len ≤ _; rw [h2.ln]; omega) (by show r3.len ≤ _; rw [h3.ln]; omega) (by show r4.len ≤ _; rw [h4.ln]; omega) (by show r5.len ≤ _; rw [h5.ln]; omega))).mono ?_
  rintro e w' ⟨rfl, t⟩
  refine ⟨rfl, ha'.turn t (fun j q1 q2 q3 => by have := low j q3; omega), ?_⟩
  exact ((t0.mono (S' := Ds 5 (g5 r1 r2 r3 r4 r5)) (fun _ _ q => q.elim)).trans t).below (fun k q => by have := low k q; omega) (by omega)
end A
end Go.Proofs.Ytpacooibmdbeaaa
