import Derived.Test.YtgbhcfephhbalaaRms
set_option linter.unusedVariables false
set_option linter.unusedSimpArgs false
namespace Go.Proofs.Ytgbhcfephhbalaa
open Go.RowKit Go.Maps
namespace U
def ucells (x : Ru × Nat × Nat) : List Value := (Ru.moved x).cells
/-- the rules laid so far -/
structure Lp (F : Pf) (b3 B : Nat) (K : World → Prop) (cs : Value → Array Value) (n : Nat) (ls : List (Ru × Nat × Nat)) (lo uo : Option Addr) (lc uc : Nat) (V : World) : Prop where
  el : ls.map (·.1) = F.u.2.2.take n
  st : St b3 B K (cs (.slice uo ls.length uc)) V
  l : G.RowI 25 1 B lo lc (ls.map lcells) V
  u : G.RowI 27 6 B uo uc (ls.map ucells) V
  ap : ∀ j, G.At lo j → ¬ G.At uo j
  rows : ∀ x ∈ ls, S.RowI B (some ⟨x.2.1, 0, none⟩) x.2.2 (x.1.rl ++ [S.sharp]) V ∧ ¬ G.At lo x.2.1 ∧ ¬ G.At uo x.2.1
variable {F : Pf} {b3 B n : Nat} {K : World → Prop} {cs : Value → Array Value} {ls : List (Ru × Nat × Nat)} {lo uo : Option Addr} {lc uc : Nat} {V : World}
theorem Lp.nil (h : St b3 B K (cs (.slice none 0 0)) V) : Lp F b3 B K cs 0 [] none none 0 0 V := ⟨rfl, h, G.RowI.nil _ _ _ _, G.RowI.nil _ _ _ _, (fun j q => by obtain ⟨a, e, _⟩ := q; cases e), (fun x hx => by cases hx)⟩
theorem Lp.len (h : Lp F b3 B K cs n ls lo uo lc uc V) (hn : n ≤ F.u.2.2.length) : ls.length = n := by
  have := congrArg List.length h.el
  rw [List.length_map, List.length_take] at this; omega
theorem bel_alloc {V w1 : World} {ob : Obj} (t1 : Below (V.alloc ob).heap.size (V.alloc ob) w1) : Below V.heap.size V w1 := ((Below.refl _ _).alloc (Nat.le_refl _) _).trans (t1.mono (by simp))
theorem Lp.u3 (h : Lp F b3 B K cs n ls lo uo lc uc V) {w1 w2 : World} (t1 : Below V.heap.size V w1) (t2 : Turn (G.At lo) w1 w2) (v : Value) : G.RowI 27 6 B uo uc (ls.map ucells) (w2.setCell ⟨V.heap.size, 3, none⟩ v) := by
  have r1 := h.u.below t1
  have r2 := r1.turn t2 (fun j q z => h.ap j z q)
  exact r2.turn (set_turn V.heap.size 3 v w2) (fun j q z => by have := (h.u.lt j q).2; omega)
theorem Lp.st3 (h : Lp F b3 B K cs n ls lo uo lc uc V) {w1 w2 : World} (t1 : Below V.heap.size V w1) (t2 : Turn (G.At lo) w1 w2) (v : Value) : St b3 B K (cs (.slice uo ls.length uc)) (w2.setCell ⟨V.heap.size, 3, none⟩ v) :=
  (((h.st.below t1).grow t2 (fun j q => (h.l.lt j q).1))).grow (set_turn V.heap.size 3 v w2) (fun j q => by rw [q]; exact h.st.hB)
theorem Lp.step (h : Lp F b3 B K cs n ls lo uo lc uc V) {R : Ru} (hn : n ≤ F.u.2.2.length) (hR : F.u.2.2[n]? = some R) (hcs : ∀ u v, (cs u).setIfInBounds 9 v = cs v) {w1 w2 w4 : World} {ob : Obj} {g c g2 c2 g4 c4 : Nat} {v3 : Value}
    (r1 : S.RowI (V.alloc ob).heap.size (some ⟨g, 0, none⟩) c (R.rl ++ [S.sharp]) w1) (t1 : Below (V.alloc ob).heap.size (V.alloc ob) w1)
    (r2 : G.RowI 25 1 B (some ⟨g2, 0, none⟩) c2 (ls.map lcells ++ [lcells (R, g, c)]) w2) (t2 : Turn (G.At lo) w1 w2) (h2 : lo = some ⟨g2, 0, none⟩ ∨ w1.heap.size ≤ g2) (l2 : g2 < w2.heap.size)
    (r4 : G.RowI 27 6 B (some ⟨g4, 0, none⟩) c4 (ls.map ucells ++ [ucells (R, g, c)]) w4) (t4 : Turn (G.At uo) (w2.setCell ⟨V.heap.size, 3, none⟩ v3) w4) (h4 : uo = some ⟨g4, 0, none⟩ ∨ (w2.setCell ⟨V.heap.size, 3, none⟩ v3).heap.size ≤ g4) (l4 : g4 < w4.heap.size) :
    Lp F b3 B K cs (n + 1) (ls ++ [(R, g, c)]) (some ⟨g2, 0, none⟩) (some ⟨g4, 0, none⟩) c2 c4 (w4.setCell ⟨b3, 9, none⟩ (.slice (some ⟨g4, 0, none⟩) (ls.length + 1) c4)) := by
  have tv := bel_alloc t1
  have z0 : (V.alloc ob).heap.size = V.heap.size + 1 := by simp
  rw [z0] at r1 t1
  have z1 := t1.size
  rw [size_set] at h4
  have z2 := t2.size
  have z4 := t4.size
  rw [size_set] at z4
  have hb := h.st.hb
  have hB := h.st.hB
  have hlo : ∀ j, G.At lo j → B ≤ j ∧ j < V.heap.size := h.l.lt
  have huo : ∀ j, G.At uo j → B ≤ j ∧ j < V.heap.size := h.u.lt
  have hg := r1.lt g ⟨_, rfl, rfl⟩
  have g2c : (G.At lo g2 ∧ B ≤ g2 ∧ g2 < V.heap.size) ∨ w1.heap.size ≤ g2 := h2.imp (fun q => by have a : G.At lo g2 := ⟨_, q, rfl⟩; exact ⟨a, hlo g2 a⟩) id
  have g4c : (G.At uo g4 ∧ B ≤ g4 ∧ g4 < V.heap.size) ∨ w2.heap.size ≤ g4 := h4.imp (fun q => by have a : G.At uo g4 := ⟨_, q, rfl⟩; exact ⟨a, huo g4 a⟩) id
  have atS : ∀ {a j : Nat}, G.At (some ⟨a, 0, none⟩) j → j = a := fun q => by obtain ⟨b, e, r⟩ := q; cases e; exact r
  have g2u : ¬ G.At uo g2 := fun q => by
    rcases g2c with ⟨a, _⟩ | a
    · exact h.ap g2 a q
    · have := (huo g2 q).2; omega
  have g24 : g2 ≠ g4 := fun e => by
    rcases g4c with ⟨a, _⟩ | a
    · exact g2u (e ▸ a)
    · omega
  have keep : ∀ (k d : Nat) (xs : List ByteArray), S.RowI B (some ⟨k, 0, none⟩) d xs w1 → ¬ G.At lo k → k ≠ V.heap.size → ¬ G.At uo k → S.RowI B (some ⟨k, 0, none⟩) d xs (w4.setCell ⟨b3, 9, none⟩ (.slice (some ⟨g4, 0, none⟩) (ls.length + 1) c4)) := fun k d xs r n1 n2 n3 => by
    have hk := (r.lt k ⟨_, rfl, rfl⟩).1
    have e : ∀ j, S.At (some ⟨k, 0, none⟩) j → j = k := fun j q => by obtain ⟨b, e, r⟩ := q; cases e; exact r
    exact (((r.turn t2 (fun j q => by rw [e j q]; exact n1)).turn (set_turn V.heap.size 3 v3 w2) (fun j q => by rw [e j q]; exact n2)).turn t4 (fun j q => by rw [e j q]; exact n3)).turn (set_turn b3 9 _ w4) (fun j q => by rw [e j q]; omega)
  refine ⟨?_, ?_, ?_, ?_, ?_, ?_⟩
  · rw [List.map_append, h.el, List.take_add_one, hR]; rfl
  · have s3 := (h.st3 tv t2 v3).grow t4 (fun j q => (huo j q).1)
    have := s3.put' 9 (.slice (some ⟨g4, 0, none⟩) (ls.length + 1) c4) (hcs _ _)
    simpa using this
  · rw [List.map_append]
    refine (((r2.turn (set_turn V.heap.size 3 v3 w2) (fun j q => by rw [atS q]; omega)).turn t4 (fun j q => by rw [atS q]; exact g2u)).turn (set_turn b3 9 _ w4) (fun j q => by rw [atS q]; omega))
  · rw [List.map_append]
    exact r4.turn (set_turn b3 9 _ w4) (fun j q => by rw [atS q]; omega)
  · intro j q1 q2
    rw [atS q1] at q2
    exact g24 (atS q2)
  · intro x hx
    rcases List.mem_append.1 hx with hx | hx
    · obtain ⟨r, n1, n2⟩ := h.rows x hx
      have hk := r.lt x.2.1 ⟨_, rfl, rfl⟩
      refine ⟨keep _ _ _ (r.below tv) n1 (by omega) n2, fun q => ?_, fun q => ?_⟩
      · have e := atS q
        rcases g2c with ⟨a, _⟩ | a
        · exact n1 (e ▸ a)
        · omega
      · have e := atS q
        rcases g4c with ⟨a, _⟩ | a
        · exact n2 (e ▸ a)
        · omega
    · rw [List.mem_singleton.1 hx]
      refine ⟨keep _ _ _ (r1.mono (by omega)) (fun q => by have := (hlo g q).2; omega) (by simp only; omega) (fun q => by have := (huo g q).2; omega), fun q => ?_, fun q => ?_⟩
      · have e := atS q
        simp only at e
        omega
      · have e := atS q
        simp only at e
        omega
/-- the rules, as they lie in the end -/
def Jr (lo : Option Addr) (g7 : Nat) (ls : List (Ru × Nat × Nat)) (V : World) : Prop := Lies 1 lo (ls.map lcells) V ∧ Lies 6 (some ⟨g7, 0, none⟩) ((ls.map Ru.moved ++ [usharp]).map Ru.cells) V ∧ ∀ x ∈ ls, S.Ints (some ⟨x.2.1, 0, none⟩) (x.1.rl ++ [S.sharp]) V
theorem Lp.fin (h : Lp F b3 B K cs n ls lo uo lc uc V) (hcs : ∀ u v, (cs u).setIfInBounds 9 v = cs v) {C' : World → Prop} (hC : ∀ W, K W → C' W) {w7 : World} {g7 c7 : Nat} (r7 : G.RowI 27 6 B (some ⟨g7, 0, none⟩) c7 (ls.map ucells ++ [usharp.cells]) w7) (t7 : Turn (G.At uo) V w7) (h7 : uo = some ⟨g7, 0, none⟩ ∨ V.heap.size ≤ g7) (l7 : g7 < w7.heap.size) :
    ∃ K' : World → Prop, (∀ W, K' W → K W ∧ Jr lo g7 ls W) ∧ (∀ W, K' W → C' W) ∧ St b3 (w7.setCell ⟨b3, 9, none⟩ (.slice (some ⟨g7, 0, none⟩) (ls.length + 1) c7)).heap.size K' (cs (.slice (some ⟨g7, 0, none⟩) (ls.length + 1) c7)) (w7.setCell ⟨b3, 9, none⟩ (.slice (some ⟨g7, 0, none⟩) (ls.length + 1) c7)) ∧ (ls.length ≤ lc ∧ ls.length + 1 ≤ c7 ∧ ∀ x ∈ ls, x.1.rl.length + 1 ≤ x.2.2) := by
  have hb := h.st.hb
  have hB := h.st.hB
  have z7 := t7.size
  have hg7 := r7.lt g7 ⟨_, rfl, rfl⟩
  have e7 : ls.map ucells ++ [usharp.cells] = (ls.map Ru.moved ++ [usharp]).map Ru.cells := by simp [ucells, Function.comp_def]
  have c7l := r7.cap
  have cl := h.l.cap
  rw [List.length_append, List.length_map] at c7l
  rw [List.length_map] at cl
  have s7 : St b3 B K (cs (.slice (some ⟨g7, 0, none⟩) (ls.length + 1) c7)) (w7.setCell ⟨b3, 9, none⟩ (.slice (some ⟨g7, 0, none⟩) (ls.length + 1) c7)) := (h.st.grow t7 (fun j q => (h.u.lt j q).1)).put' 9 _ (hcs _ _)
  have hl7 : ∀ a, lo = some a → a.block < w7.heap.size ∧ a.block ≠ b3 := fun a q => by have := h.l.lt a.block ⟨a, q, rfl⟩; omega
  have jr : Jr lo g7 ls (w7.setCell ⟨b3, 9, none⟩ (.slice (some ⟨g7, 0, none⟩) (ls.length + 1) c7)) := by
    refine ⟨?_, ?_, fun x hx => ?_⟩
    · refine lies_row (m := 1) ((h.l.turn t7 (fun j q z => h.ap j q z)).turn (set_turn b3 9 _ w7) (fun j q => by have := (h.l.lt j q).1; omega)) (fun k hk => ?_)
      obtain ⟨x, _, rfl⟩ := List.mem_map.1 hk
      rfl
    · rw [← e7]
      refine lies_row (m := 6) (r7.turn (set_turn b3 9 _ w7) (fun j q => by obtain ⟨a, e, r⟩ := q; cases e; simp only at r; omega)) (fun k hk => ?_)
      rcases List.mem_append.1 hk with q | q
      · obtain ⟨x, _, rfl⟩ := List.mem_map.1 q
        rfl
      · rw [List.mem_singleton.1 q]; rfl
    · obtain ⟨r, n1, n2⟩ := h.rows x hx
      have hx1 := (r.lt x.2.1 ⟨_, rfl, rfl⟩).1
      have e : ∀ j, S.At (some ⟨x.2.1, 0, none⟩) j → j = x.2.1 := fun j q => by obtain ⟨b, e, r⟩ := q; cases e; exact r
      exact kept_s (r.turn t7 (fun j q => by rw [e j q]; exact n2)) (set_turn b3 9 _ w7) (by omega)
  have sj : Stab b3 (w7.setCell ⟨b3, 9, none⟩ (.slice (some ⟨g7, 0, none⟩) (ls.length + 1) c7)).heap.size (Jr lo g7 ls) := by
    rw [size_set]
    rintro W W' ⟨j1, j2, j3⟩ t
    refine ⟨stab_l hl7 W W' j1 t, stab_l (fun a q => by cases q; simp only; omega) W W' j2 t, fun x hx => ?_⟩
    have hx1 := (h.rows x hx).1.lt x.2.1 ⟨_, rfl, rfl⟩
    exact stab_s (by omega) (by omega) W W' (j3 x hx) t
  obtain ⟨K', k1, k2, k3⟩ := s7.add' sj jr hC
  refine ⟨K', k1, k2, k3, cl, by simpa using c7l, fun x hx => ?_⟩
  have := (h.rows x hx).1.cap
  simpa using this
/-- the block that was made full is read, another one is filled -/
theorem St.next {b3 b8 B : Nat} {K C' : World → Prop} {cs8 cs : Array Value} {V W : World} (h : St b3 B K cs V) (hC : ∀ W, K W → C' W) (t : Below V.heap.size V W) (hb8 : W.heap[b8]? = some (.cells cs8 34 (0, 0))) (h8 : V.heap.size ≤ b8) :
    ∃ K' : World → Prop, (∀ W, K' W → K W ∧ W.heap[b3]? = some (.cells cs 34 (0, 0))) ∧ (∀ W, K' W → C' W) ∧ St b8 W.heap.size K' cs8 W := by
  have hb := h.hb
  have hB := h.hB
  refine ⟨fun W => K W ∧ W.heap[b3]? = some (.cells cs 34 (0, 0)), fun _ q => q, fun W q => hC W q.1, ⟨?_, ⟨(h.below t).k, (h.below t).h3⟩, Nat.le_refl _, lt_of_heap hb8, hb8⟩⟩
  rintro W1 W2 ⟨k1, k2⟩ t'
  have z := t.size
  exact ⟨h.st W1 W2 k1 (t'.mono (fun j _ q => .inr (by omega))), (t'.block b3 (lt_of_heap k2) (by omega)).trans k2⟩
end U
end Go.Proofs.Ytgbhcfephhbalaa
