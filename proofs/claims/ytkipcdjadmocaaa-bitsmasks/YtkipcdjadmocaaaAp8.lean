import Derived.Test.YtkipcdjadmocaaaFoldP
import Derived.Deep.RegionHeld3
import Derived.Deep.AppendLies
import Derived.Deep.RegionLaw
import Derived.LoopTactic
import Derived.ArgAppend
set_option linter.unusedVariables false
set_option linter.unusedSimpArgs false
namespace Go.Proofs.Ytkipcdjadmocaaa
open Go.RowKit
namespace A8
theorem lt_of_heap {w : World} {b : Nat} {o : Obj} (h : w.heap[b]? = some o) : b < w.heap.size := (Array.getElem?_eq_some_iff.1 h).1
theorem turn_below {S : Nat → Prop} {w w' : World} (b : Below w.heap.size w w') : Turn S w w' := ⟨b.os, b.tape, b.output, b.size, fun k hk _ => b.block k hk⟩
theorem cells_ne {w : World} {i j : Nat} {c c' : Array Value} {t t' : Nat} {r r' : Nat × Nat} (h : w.heap[i]? = some (.cells c t r)) (h' : w.heap[j]? = some (.cells c' t' r')) (n : t ≠ t') : i ≠ j := by
  intro e
  subst e
  rw [h] at h'
  cases h'
  exact n rfl
theorem set_block {w : World} {b off : Nat} {cs : Array Value} {t : TypeId} {r : Nat × Nat} {v : Value} (h : w.heap[b]? = some (.cells cs t r)) : (w.setCell ⟨b, off, none⟩ v).heap[b]? = some (.cells (cs.setIfInBounds off v) t r) := by
  simp [World.setCell, Array.getElem?_modify, h]
theorem msr' {k n : Nat} (h : k < n) (i : Int) (e : i = (k : Int) + 1) : n - (intOf (.int .i64 i)).toNat < n - (intOf (.int .i64 (k : Int))).toNat := by
  rw [e]
  show n - ((k : Int) + 1).toNat < n - (k : Int).toNat
  omega
def At (ao : Option Addr) (j : Nat) : Prop := ∃ a, ao = some a ∧ j = a.block
theorem own_at {ao : Option Addr} {n cap j : Nat} (h : (Value.slice ao n cap).ownBlock = some j) : At ao j := by
  cases ao with
  | none => cases h
  | some a => exact ⟨a, rfl, by simpa [Value.ownBlock] using h.symm⟩
theorem at_own {ao : Option Addr} {n cap j : Nat} (h : At ao j) : (Value.slice ao n cap).ownBlock = some j := by
  obtain ⟨a, rfl, rfl⟩ := h
  rfl
def ivs (zs : List Int) : List Value := zs.map fun v => Value.int .i8 v
theorem ivs_len (zs : List Int) : (ivs zs).length = zs.length := by simp [ivs]
/-- append of one thing to a row: what turns is the row's block -/
theorem wpList_more {t e m bytes : Nat} {z : Value} (ht : Try.prog.underlying t = some (.slice e)) (hinf : (Try.prog.info? e).map (fun i => (i.zero, i.size, i.bytes)) = some (some z, m, bytes)) (hz : z.cells.size = m) (hm : 0 < m) (w : World) {ops : Array Oper} {rest : List Oper} {o : Oper} {a : Act} {Q : Exit → Act → World → Prop} (hgd : o.guard = none) (s y : Operand)
    (ho : o.op = .call { callee := .builtin .append, args := #[s, y], argTypes := #[t, t] }) {B : Nat} {ro : Option Addr} {rc k : Nat} {xs : List Value} (hrow : w.ownsRow B e m (.slice ro k rc) k xs) (hl : Hid (k < 17592186044000)) (hby : bytes ≤ 8 ∨ (bytes ≤ 40 ∧ k < 3000000000000)) (hB : B ≤ w.heap.size) (cs : List Value) (hcl : cs.length = m) (h1 : ∀ u ∈ cs, u.oneCell' = true) (c : Nat) (hs : a.eval s = .slice ro k rc) (hx : a.eval y = .slice (some ⟨w.heap.size, 0, none⟩) 1 c)
    (hk : ∀ gg cap' w1, w1.ownsRow B e m (.slice (some ⟨gg, 0, none⟩) (k + 1) cap') (k + 1) (xs ++ cs) → Turn (At ro) w w1 → (At ro gg ∨ w.heap.size ≤ gg) → wpList Try.prog ops Q rest (a.put o.dst (.slice (some ⟨gg, 0, none⟩) (k + 1) cap')) w1) :
    wpList Try.prog ops Q (o :: rest) a (w.alloc (.cells cs.toArray e)) := by
  obtain ⟨i0, hi0, hz0, hz1, hz2⟩ := info_parts hinf
  have hbig : (k + 1) * bytes ≤ 140737488355328 := by
    have := hl.out
    rcases hby with h | ⟨h, h'⟩
    · exact Nat.le_trans (Nat.mul_le_mul_left _ h) (by omega)
    · exact Nat.le_trans (Nat.mul_le_mul_left _ h) (by omega)
  refine wpList_append_lies _ hgd s y t ho B e i0 _ m bytes ht hi0 hz0 hz1 hz2 hz hm _ k xs hs (World.ownsRow.alloc hrow _) ⟨w.heap.size, 0, none⟩ 1 c cs hx (by omega) (fun j u hj => World.news_of_block (heap_alloc_new w (.cells cs.toArray e)) j u (by simpa using hj)) h1 (by omega) (by have := hl.out; unfold maxLen; omega) hbig (by simp; omega) (w.heap.size + 1) (by simp) ?_
  intro gg cap' w1 hown1 hgrow hat hlt
  have t0 : Turn (At ro) w w1 := ((Turn.refl _ w).alloc _).grown hgrow (fun k hk _ => own_at hk)
  refine hk gg cap' w1 hown1 t0 ?_
  rcases hat with q | q
  · exact .inl (own_at q)
  · exact .inr (by omega)
/-- a row's cells -/
theorem row_cell {w : World} {B e size n cap g : Nat} {xs : List Value} (h : w.ownsRow B e size (.slice (some ⟨g, 0, none⟩) n cap) n xs) : ∀ j u, xs[j]? = some u → w.cell? ((⟨g, 0, none⟩ : Addr).add j) = some u := by
  intro j u hj
  have hlt := (List.getElem?_eq_some_iff.1 hj).1
  rw [h.1] at hlt
  have : (⟨g, 0, none⟩ : Addr).add j = ⟨g, j, none⟩ := by unfold Addr.add; split <;> simp_all
  rw [this, h.cellAt j hlt]
  exact hj
/-- a slice of numbers, wherever it lies -/
def Ints (w : World) (a : Option Addr) (zs : List Int) : Prop := zs = [] ∨ ∃ b off, a = some ⟨b, off, none⟩ ∧ b < w.heap.size ∧ ∀ j, j < zs.length → w.cell? ⟨b, off + j, none⟩ = some (.int .i8 (zs.getD j 0))
theorem Ints.of_row {w : World} {B : Nat} {ao : Option Addr} {cap : Nat} {zs : List Int} (h : w.ownsRow B 40 1 (.slice ao zs.length cap) zs.length (ivs zs)) : Ints w ao zs := by
  rcases h.2 with ⟨hv, h0⟩ | ⟨g, cap', cur, hv, hb, hg, rest⟩
  · exact .inl (List.length_eq_zero_iff.1 h0)
  · simp only [Value.slice.injEq] at hv
    obtain ⟨rfl, _, _⟩ := hv
    refine .inr ⟨g, 0, rfl, lt_of_heap hg, fun j hj => ?_⟩
    have := row_cell h j (.int .i8 (zs.getD j 0)) (by simp [ivs, List.getD, hj])
    have e : (⟨g, 0, none⟩ : Addr).add j = ⟨g, j, none⟩ := by unfold Addr.add; split <;> simp_all
    rw [e] at this
    rw [Nat.zero_add]
    exact this
theorem Ints.below {w w' : World} {a : Option Addr} {zs : List Int} (h : Ints w a zs) (b : Below w.heap.size w w') : Ints w' a zs := by
  rcases h with h | ⟨g, off, ha, hg, hc⟩
  · exact .inl h
  · exact .inr ⟨g, off, ha, Nat.lt_of_lt_of_le hg b.size, fun j hj => (b.cell (p := ⟨g, off + j, none⟩) hg).trans (hc j hj)⟩
theorem Ints.turn {S : Nat → Prop} {w w' : World} {a : Option Addr} {zs : List Int} (h : Ints w a zs) (t : Turn S w w') (hn : zs ≠ [] → ∀ j, At a j → ¬ S j) : Ints w' a zs := by
  rcases h with h | ⟨g, off, ha, hg, hc⟩
  · exact .inl h
  · by_cases h0 : zs = []
    · exact .inl h0
    · exact .inr ⟨g, off, ha, Nat.lt_of_lt_of_le hg t.size, fun j hj => (t.cell (p := ⟨g, off + j, none⟩) hg (hn h0 g ⟨_, ha, rfl⟩)).trans (hc j hj)⟩
theorem addOff (b off j : Nat) : (⟨b, off, none⟩ : Addr).add j = ⟨b, off + j, none⟩ := by unfold Addr.add; split <;> simp_all
theorem row_put {w : World} {g rc n k : Nat} {B : Nat} {zs : List Int} (h : w.ownsRow B 40 1 (.slice (some ⟨g, 0, none⟩) n rc) n (ivs zs)) (v : Int) : (w.setCell ⟨g, k, none⟩ (.int .i8 v)).ownsRow B 40 1 (.slice (some ⟨g, 0, none⟩) n rc) n (ivs (zs.set k v)) := by
  refine ⟨by rw [ivs, List.length_map, List.length_set]; have := h.1; rw [ivs, List.length_map] at this; exact this, ?_⟩
  rcases h.2 with ⟨hv, _⟩ | ⟨g', cap', cur, hv, hb, hg', h1, h2, h3, h4⟩
  · cases hv
  · simp only [Value.slice.injEq, Option.some.injEq] at hv
    obtain ⟨hv1, _, rfl⟩ := hv
    cases hv1
    refine .inr ⟨g, rc, cur.setIfInBounds k (.int .i8 v), rfl, hb, set_block hg', h1, h2, by simpa using h3, ?_⟩
    rw [Array.toList_setIfInBounds, List.take_set, h4]
    simp [ivs, List.map_set]
theorem row_int {w : World} {g rc n k : Nat} {B : Nat} {zs : List Int} (h : w.ownsRow B 40 1 (.slice (some ⟨g, 0, none⟩) n rc) n (ivs zs)) (hk : k < zs.length) : w.cell? ⟨g, k, none⟩ = some (.int .i8 (zs.getD k 0)) ∧ w.frozen? ⟨g, k, none⟩ = false ∧ B ≤ g ∧ g < w.heap.size := by
  have := row_cell h k (.int .i8 (zs.getD k 0)) (by simp [ivs, List.getD, hk])
  rw [addOff, Nat.zero_add] at this
  rcases h.2 with ⟨hv, _⟩ | ⟨g', cap', cur, hv, hb, hg', _⟩
  · cases hv
  · simp only [Value.slice.injEq, Option.some.injEq] at hv
    obtain ⟨hv1, _, _⟩ := hv
    cases hv1
    exact ⟨this, Lib.frozen_of_heap hg' k, hb, lt_of_heap hg'⟩
structure Rw where
  ao : Option Addr
  len : Nat
  cap : Nat
def Rw.v (r : Rw) : Value := .slice r.ao r.len r.cap
def Rows (B N : Nat) (G : Nat → Rw) (C : Nat → List Int) (w : World) : Prop := ∀ i, i < N → w.ownsRow B 40 1 (.slice (G i).ao (G i).len (G i).cap) (G i).len (ivs (C i))
/-- rows in blocks of their own -/
def Dj (N : Nat) (G : Nat → Rw) : Prop := ∀ i, i < N → ∀ k, k < N → ∀ j, At (G i).ao j → At (G k).ao j → i = k
def Ds (N : Nat) (G : Nat → Rw) (j : Nat) : Prop := ∃ i, i < N ∧ At (G i).ao j
/-- a slice of slices, wherever it lies -/
def Sl (w : World) (a : Option Addr) (N : Nat) (f : Nat → Value) : Prop := N = 0 ∨ ∃ b off cs r, a = some ⟨b, off, none⟩ ∧ w.heap[b]? = some (.cells cs 42 r) ∧ ∀ j, j < N → w.cell? ⟨b, off + j, none⟩ = some (f j)
variable {B N : Nat} {G V : Nat → Rw} {C X : Nat → List Int} {w w' w0 : World} {a : Option Addr} {f : Nat → Value}
theorem Sl.turn {S : Nat → Prop} (h : Sl w a N f) (t : Turn S w w') (hn : ∀ j cs r, w.heap[j]? = some (.cells cs 42 r) → ¬ S j) : Sl w' a N f := by
  rcases h with h | ⟨b, off, cs, r, ha, hb, hc⟩
  · exact .inl h
  · exact .inr ⟨b, off, cs, r, ha, (t.block b (lt_of_heap hb) (hn b cs r hb)).trans hb, fun j hj => (t.cell (p := ⟨b, off + j, none⟩) (lt_of_heap hb) (hn b cs r hb)).trans (hc j hj)⟩
theorem row_kind {e : Nat} {ao : Option Addr} {n cap : Nat} {xs : List Value} (h : w.ownsRow B e 1 (.slice ao n cap) n xs) {j : Nat} (hj : At ao j) : B ≤ j ∧ ao = some ⟨j, 0, none⟩ ∧ ∃ cs r, w.heap[j]? = some (.cells cs e r) := by
  obtain ⟨b, rfl, rfl⟩ := hj
  rcases h.2 with ⟨hv, _⟩ | ⟨g, cap', cur, hv, hb, hg, _⟩
  · cases hv
  · simp only [Value.slice.injEq, Option.some.injEq] at hv
    obtain ⟨rfl, _, _⟩ := hv
    exact ⟨hb, rfl, _, _, hg⟩
theorem Rows.kind (h : Rows B N G C w) {j : Nat} (hj : Ds N G j) : B ≤ j ∧ j < w.heap.size ∧ ∃ cs r, w.heap[j]? = some (.cells cs 40 r) := by
  obtain ⟨i, hi, hj⟩ := hj
  obtain ⟨h1, _, cs, r, h2⟩ := row_kind (h i hi) hj
  exact ⟨h1, lt_of_heap h2, cs, r, h2⟩
theorem Rows.no23 (h : Rows B N G C w) (j : Nat) (cs : Array Value) (r : Nat × Nat) (hh : w.heap[j]? = some (.cells cs 42 r)) : ¬ Ds N G j := by
  intro q
  obtain ⟨_, _, cs', r', h2⟩ := h.kind q
  exact cells_ne hh h2 (by decide) rfl
theorem Rows.kept {S : Nat → Prop} (h : Rows B N G C w) (t : Turn S w w') (hn : ∀ i, i < N → ∀ j, At (G i).ao j → ¬ S j) : Rows B N G C w' :=
  fun i hi => t.row (h i hi) (fun j hj => hn i hi j (own_at hj))
theorem Rows.len (h : Rows B N G C w) {i : Nat} (hi : i < N) : (C i).length = (G i).len := by
  have := (h i hi).1
  rw [ivs_len, Nat.mul_one] at this
  exact this
theorem Rows.ints (h : Rows B N G C w) {i : Nat} (hi : i < N) : Ints w (G i).ao (C i) := by
  have q := h i hi
  rw [← h.len hi] at q
  exact Ints.of_row q
theorem Rows.put (h : Rows B N G C w) (hD : Dj N G) {p k : Nat} (hp : p < N) (hk : k < (G p).len) (v : Int) : ∃ g, (G p).ao = some ⟨g, 0, none⟩ ∧ w.cell? ⟨g, k, none⟩ = some (.int .i8 ((C p).getD k 0)) ∧ w.frozen? ⟨g, k, none⟩ = false ∧ Rows B N G (fun i => if i = p then (C p).set k v else C i) (w.setCell ⟨g, k, none⟩ (.int .i8 v)) ∧ Turn (Ds N G) w (w.setCell ⟨g, k, none⟩ (.int .i8 v)) := by
  have hr := h p hp
  have hl := h.len hp
  obtain ⟨g, hg⟩ : ∃ g, (G p).ao = some ⟨g, 0, none⟩ := by
    rcases hr.2 with ⟨_, h0⟩ | ⟨g, cap', cur, hv, _⟩
    · omega
    · simp only [Value.slice.injEq] at hv
      exact ⟨g, hv.1⟩
  have hr' := hr
  rw [hg] at hr'
  have hi := row_int hr' (k := k) (by omega)
  refine ⟨g, hg, hi.1, hi.2.1, fun i hi' => ?_, (Turn.refl _ w).setCell (p := ⟨g, k, none⟩) (fun _ => ⟨p, hp, _, hg, rfl⟩) _⟩
  by_cases e : i = p
  · subst e
    simp only [if_true]
    rw [hg]
    exact row_put hr' v
  · simp only [if_neg e]
    refine (((Turn.refl (fun j => j = g) w).setCell (p := ⟨g, k, none⟩) (fun _ => rfl) _)).row (h i hi') (fun j hj q => e (hD i hi' p hp j (own_at hj) ⟨_, hg, q⟩))
/-- append of a number to a row of numbers: in place, or the old block stays -/
theorem wpList_nump (w : World) {ops : Array Oper} {rest : List Oper} {o : Oper} {a : Act} {Q : Exit → Act → World → Prop} (hgd : o.guard = none) (s y : Operand)
    (ho : o.op = .call { callee := .builtin .append, args := #[s, y], argTypes := #[42, 42] }) {B : Nat} {ro : Option Addr} {rc : Nat} {zs : List Int} {n : Nat} (hn : zs.length = n) (hrow : w.ownsRow B 40 1 (.slice ro n rc) n (ivs zs)) (hl : Hid (n < 17592186044000)) (hB : B ≤ w.heap.size) (v : Int) (c : Nat) (hs : a.eval s = .slice ro n rc) (hx : a.eval y = .slice (some ⟨w.heap.size, 0, none⟩) 1 c)
    (hk : ∀ gg cap' w1, w1.ownsRow B 40 1 (.slice (some ⟨gg, 0, none⟩) (n + 1) cap') (n + 1) (ivs (zs ++ [v])) → Turn (At ro) w w1 → (ro = some ⟨gg, 0, none⟩ ∧ cap' = rc ∨ w.heap.size ≤ gg ∧ Turn (fun _ => False) w w1) → wpList Try.prog ops Q rest (a.put o.dst (.slice (some ⟨gg, 0, none⟩) (n + 1) cap')) w1) :
    wpList Try.prog ops Q (o :: rest) a (w.alloc (.cells #[.int .i8 v] 40)) := by
  subst hn
  obtain ⟨i0, hi0, hz0, hz1, hz2⟩ := info_parts info40
  have hrow' := World.ownsRow.alloc hrow (.cells #[.int .i8 v] 40)
  have hnews : ∀ j u, [Value.int .i8 v][j]? = some u → (w.alloc (.cells #[.int .i8 v] 40)).cell? ((⟨w.heap.size, 0, none⟩ : Addr).add j) = some u := fun j u hj => World.news_of_block (heap_alloc_new w (.cells #[.int .i8 v] 40)) j u (by simpa using hj)
  have hone : ∀ u ∈ [Value.int .i8 v], u.oneCell' = true := by simp [Value.oneCell']
  have eiv : ivs (zs ++ [v]) = ivs zs ++ [.int .i8 v] := by simp [ivs]
  rw [eiv] at hk
  by_cases hr : zs.length + 1 ≤ rc
  · rcases hrow.2 with ⟨hv, h0⟩ | ⟨g, cap', cur, hv, hb, hg, hrest⟩
    · simp only [Value.slice.injEq] at hv
      obtain ⟨_, _, rfl⟩ := hv
      omega
    · simp only [Value.slice.injEq] at hv
      obtain ⟨rfl, _, rfl⟩ := hv
      refine wpList_append_fits _ hgd s y 42 ho B 40 i0 1 Try.underlying42 hi0 hz1 g zs.length rc (ivs zs) hs hrow' ⟨w.heap.size, 0, none⟩ 1 c [.int .i8 v] hx (by simp) hnews hone hr ?_
      intro w1 r1 g1
      exact hk g rc w1 r1 (((Turn.refl _ w).alloc _).grown g1 (fun k hk _ => ⟨_, rfl, by cases hk; rfl⟩)) (.inl ⟨rfl, rfl⟩)
  · refine wpList_append_grows _ hgd s y 42 ho 40 i0 (.int .i8 0) 1 1 Try.underlying42 hi0 hz0 hz1 hz2 rfl (by omega) ro zs.length rc (ivs zs) hs ?_ (by rw [ivs_len]; omega) ?_ ⟨w.heap.size, 0, none⟩ 1 c [.int .i8 v] hx (by simp) hnews hone (by omega) (by have := hl.out; unfold maxLen; omega) (by have := hl.out; omega) ?_
    · intro h
      subst h
      rcases hrow.2 with ⟨hv, h0⟩ | ⟨g, cap', cur, hv, _⟩
      · simp only [Value.slice.injEq] at hv
        exact ⟨h0, hv.2.2⟩
      · cases hv
    · intro b hb j u hj
      subst hb
      obtain ⟨_, hq, _⟩ := row_kind hrow' (j := b.block) ⟨b, rfl, rfl⟩
      have hq' := Option.some.inj hq
      rw [hq'] at hrow' ⊢
      exact row_cell hrow' j u hj
    · intro v' w1 r1 g1
      rcases r1.2 with ⟨_, h0⟩ | ⟨gg, cap', cur, rfl, hb, _⟩
      · omega
      · have hb' : w.heap.size ≤ gg := by
          have e : (w.alloc (.cells #[.int .i8 v] 40)).heap.size = w.heap.size + 1 := by simp
          omega
        have t : Turn (fun _ => False) w w1 := ((Turn.refl _ w).alloc _).grown g1 (fun k hk => by cases hk)
        have r2 : w1.ownsRow B 40 1 (.slice (some ⟨gg, 0, none⟩) (zs.length + 1) cap') (zs.length + 1) (ivs zs ++ [.int .i8 v]) := by
          refine ⟨r1.1, ?_⟩
          rcases r1.2 with h | ⟨g2, c2, cur2, hv, hb2, rest2⟩
          · exact .inl h
          · exact .inr ⟨g2, c2, cur2, hv, by have : (w.alloc (.cells #[.int .i8 v] 40)).heap.size = w.heap.size + 1 := by simp
                                             omega, rest2⟩
        exact hk gg cap' w1 r2 (t.mono (fun _ _ q => q.elim)) (.inr ⟨hb', t⟩)
def mk1 (i : Nat) : Int := -1 - (i : Int)
def mk2 (i : Nat) : Int := 50 + (i : Int)
/-- while the even rows are written over -/
structure S2 (B N : Nat) (G : Nat → Rw) (X : Nat → List Int) (w0 : World) (p k : Nat) (C : Nat → List Int) (w : World) : Prop where
  rows : Rows B N G C w
  tn : Turn (Ds N G) w0 w
  pre : ∀ i, i < N → i < p → C i = List.replicate (G i).len (mk1 i)
  part : ∀ j, j < k → (C p).getD j 0 = mk1 p
theorem S2.put {p k : Nat} (h : S2 B N G X w0 p k C w) (hD : Dj N G) (hp : p < N) (hk : k < (G p).len) : ∃ g u C', (G p).ao = some ⟨g, 0, none⟩ ∧ w.cell? ⟨g, k, none⟩ = some (.int .i8 u) ∧ w.frozen? ⟨g, k, none⟩ = false ∧ S2 B N G X w0 p (k + 1) C' (w.setCell ⟨g, k, none⟩ (.int .i8 (mk1 p))) := by
  obtain ⟨g, hg, hc, hf, hR, ht⟩ := h.rows.put hD hp hk (mk1 p)
  refine ⟨g, _, _, hg, hc, hf, hR, h.tn.trans ht, fun i hi hl => ?_, fun j hj => ?_⟩
  · rw [if_neg (by omega)]; exact h.pre i hi hl
  · simp only [if_true]
    have hl := h.rows.len hp
    by_cases e : j = k
    · subst e
      simp [List.getD, hl, hk]
    · have := h.part j (by omega)
      rw [List.getD, List.getElem?_set_ne (by omega)]
      exact this
theorem S2.next {p : Nat} (h : S2 B N G X w0 p (G p).len C w) (hp : p < N) : S2 B N G X w0 (p + 1) 0 C w := by
  refine ⟨h.rows, h.tn, fun i hi hl => ?_, fun j hj => by omega⟩
  by_cases e : i = p
  · subst e
    have hl := h.rows.len hi
    refine List.ext_getElem (by simp [hl]) (fun j h1 h2 => ?_)
    have := h.part j (by omega)
    rw [List.getElem_replicate, ← this]
    simp [List.getD, h1]
  · exact h.pre i hi (by omega)
theorem S2.k0 {p k : Nat} (h : S2 B N G X w0 p k C w) : S2 B N G X w0 p 0 C w := ⟨h.rows, h.tn, h.pre, fun j hj => by omega⟩
/-- what the rows hold then -/
def Fn (G : Nat → Rw) (X : Nat → List Int) (i : Nat) : List Int := List.replicate (G i).len (mk1 i)
def Hn (G : Nat → Rw) (i k : Nat) : List Int := List.replicate (G i).len (mk1 i) ++ List.replicate k (mk2 i)
theorem Hn.len (G : Nat → Rw) (i k : Nat) : (Hn G i k).length = (G i).len + k := by simp [Hn]
theorem Hn.succ (G : Nat → Rw) (i k : Nat) : Hn G i k ++ [mk2 i] = Hn G i (k + 1) := by simp [Hn, List.replicate_succ']
theorem S2.done {p k : Nat} (h : S2 B N G X w0 p k C w) (hp : N ≤ p) : Rows B N G (Fn G X) w ∧ Turn (Ds N G) w0 w := by
  refine ⟨fun i hi => ?_, h.tn⟩
  have e : Fn G X i = C i := by
    unfold Fn
    exact (h.pre i hi (by omega)).symm
  rw [e]
  exact h.rows i hi
/-- while the long rows are made -/
structure S3 (B N : Nat) (G : Nat → Rw) (X : Nat → List Int) (w0 : World) (p sz : Nat) (L : Nat → Rw) (la : Option Addr) (lc : Nat) (w : World) : Prop where
  rows : Rows B N G (Fn G X) w
  tn : Turn (Ds N G) w0 w
  z1 : w0.heap.size ≤ sz
  z2 : sz ≤ w.heap.size
  row : w.ownsRow w0.heap.size 42 1 (.slice la p lc) p ((List.range p).map (fun i => (L i).v))
  lg : ∀ i, i < p → (L i).len = (G i).len + 64 ∧ Ints w (L i).ao (Hn G i 64) ∧ ∀ j, At (L i).ao j → At (G i).ao j ∨ (w0.heap.size ≤ j ∧ j < sz ∧ ∃ cs r, w.heap[j]? = some (.cells cs 40 r))
/-- within a round -/
structure S4 (B N : Nat) (G : Nat → Rw) (X : Nat → List Int) (w0 : World) (p sz : Nat) (L : Nat → Rw) (la : Option Addr) (lc : Nat) (k : Nat) (l : Rw) (w : World) : Prop where
  st : S3 B N G X w0 p sz L la lc w
  ll : l.len = (G p).len + k
  own : w.ownsRow B 40 1 (.slice l.ao l.len l.cap) l.len (ivs (Hn G p k))
  at_ : (l.ao = (G p).ao ∧ l.cap = (G p).cap) ∨ ∃ g, l.ao = some ⟨g, 0, none⟩ ∧ sz ≤ g
variable {p sz lc k : Nat} {L : Nat → Rw} {la : Option Addr} {l : Rw}
theorem S3.turn {S : Nat → Prop} (h : S3 B N G X w0 p sz L la lc w) (h0 : Rows B N G C w0) (hp : p ≤ N) (t : Turn S w w') (hR : Rows B N G (Fn G X) w') (hS : ∀ j, S j → Ds N G j ∨ sz ≤ j) (hg : ∀ j, S j → ∀ i, i < p → ¬ At (G i).ao j) (hk : ∀ j, S j → ∀ cs r, w.heap[j]? ≠ some (.cells cs 42 r)) : S3 B N G X w0 p sz L la lc w' := by
  have h1 := h.z1
  have h2 := h.z2
  have h3 := t.size
  have key : ∀ i, i < p → ∀ j, At (L i).ao j → ¬ S j := fun i hi j hj q => by
    rcases (h.lg i hi).2.2 j hj with a1 | ⟨a1, a2, _⟩
    · exact hg j q i hi a1
    · rcases hS j q with b1 | b1
      · have := (h0.kind b1).2.1
        omega
      · omega
  refine ⟨hR, h.tn.then t (fun i hi q => ?_), h1, by omega, t.row h.row (fun j hj q => ?_), fun i hi => ?_⟩
  · rcases hS i q with b | b
    · exact b
    · omega
  · obtain ⟨_, _, cs, r, hh⟩ := row_kind h.row (own_at hj)
    exact hk j q cs r hh
  · obtain ⟨a1, a2, a3⟩ := h.lg i hi
    refine ⟨a1, a2.turn t (fun _ j hj => key i hi j hj), fun j hj => ?_⟩
    rcases a3 j hj with b | ⟨b1, b2, cs, r, b3⟩
    · exact .inl b
    · exact .inr ⟨b1, b2, cs, r, (t.block j (by omega) (key i hi j hj)).trans b3⟩
theorem row_prefix {g cap n n' : Nat} {zs ys : List Int} (h : w.ownsRow B 40 1 (.slice (some ⟨g, 0, none⟩) n' cap) n' (ivs (zs ++ ys))) (hn : zs.length = n) : w.ownsRow B 40 1 (.slice (some ⟨g, 0, none⟩) n cap) n (ivs zs) := by
  have hl := h.1
  rw [ivs_len, List.length_append, Nat.mul_one] at hl
  refine ⟨by rw [ivs_len]; omega, ?_⟩
  rcases h.2 with ⟨hv, _⟩ | ⟨g', cap', cur, hv, hb, hg, h1, h2, h3, h4⟩
  · cases hv
  · simp only [Value.slice.injEq, Option.some.injEq] at hv
    obtain ⟨hv1, _, rfl⟩ := hv
    cases hv1
    refine .inr ⟨g, cap, cur, rfl, hb, hg, by omega, h2, h3, ?_⟩
    have : (cur.toList.take (n' * 1)).take n = ivs zs := by
      rw [h4, ivs, List.map_append, List.take_append_of_le_length (by simp; omega), List.take_of_length_le (by simp; omega)]
      rfl
    rw [List.take_take, Nat.min_eq_left (by omega)] at this
    rw [Nat.mul_one]
    exact this
theorem S4.step (h : S4 B N G X w0 p sz L la lc k l w) (h0 : Rows B N G C w0) (hD : Dj N G) (hp : p < N) {gg cap' : Nat} {w1 : World} (r1 : w1.ownsRow B 40 1 (.slice (some ⟨gg, 0, none⟩) (l.len + 1) cap') (l.len + 1) (ivs (Hn G p k ++ [mk2 p]))) (t : Turn (At l.ao) w w1) (hgg : l.ao = some ⟨gg, 0, none⟩ ∧ cap' = l.cap ∨ w.heap.size ≤ gg ∧ Turn (fun _ => False) w w1) :
    S4 B N G X w0 p sz L la lc (k + 1) ⟨some ⟨gg, 0, none⟩, l.len + 1, cap'⟩ w1 := by
  have z1 := h.st.z1
  have z2 := h.st.z2
  have hl : ∀ j, At l.ao j → At (G p).ao j ∨ sz ≤ j := fun j hj => by
    rcases h.at_ with ⟨a1, _⟩ | ⟨g, a1, a2⟩
    · rw [a1] at hj; exact .inl hj
    · rw [a1] at hj
      obtain ⟨b, hb, rfl⟩ := hj
      cases hb
      exact .inr a2
  have hR : Rows B N G (Fn G X) w1 := fun i hi => by
    by_cases e : i = p
    · subst e
      rcases hgg with ⟨b1, b2⟩ | ⟨b1, b2⟩
      · rcases h.at_ with ⟨a1, a2⟩ | ⟨g, a1, a2⟩
        · rw [b1] at a1
          rw [← a1, ← a2, ← b2]
          have : Fn G X i = List.replicate (G i).len (mk1 i) := rfl
          rw [this]
          refine row_prefix (n' := l.len + 1) (ys := List.replicate k (mk2 i) ++ [mk2 i]) ?_ (by simp)
          rw [← List.append_assoc]
          exact r1
        · refine t.row (h.st.rows i hi) (fun j hj q => ?_)
          rw [a1] at q
          obtain ⟨b, hb, rfl⟩ := q
          cases hb
          have := (h0.kind ⟨i, hi, own_at hj⟩).2.1
          simp only at this
          omega
      · exact b2.row (h.st.rows i hi) (fun _ _ q => q)
    · refine t.row (h.st.rows i hi) (fun j hj q => ?_)
      rcases hl j q with b | b
      · exact e (hD i hi p hp j (own_at hj) b)
      · have := (h0.kind ⟨i, hi, own_at hj⟩).2.1
        omega
  refine ⟨h.st.turn h0 (Nat.le_of_lt hp) t hR (fun j hj => ?_) (fun j hj i hi q => ?_) (fun j hj cs r hh => ?_), by have := h.ll; simp only; omega, by rw [Hn.succ] at r1; exact r1, ?_⟩
  · rcases hl j hj with b | b
    · exact .inl ⟨p, hp, b⟩
    · exact .inr b
  · rcases hl j hj with b | b
    · have := hD i (by omega) p hp j q b
      omega
    · have := (h0.kind ⟨i, by omega, q⟩).2.1
      omega
  · obtain ⟨_, _, cs', r', h2⟩ := row_kind h.own hj
    exact cells_ne hh h2 (by decide) rfl
  · rcases hgg with ⟨b1, b2⟩ | ⟨b1, _⟩
    · rcases h.at_ with ⟨a1, a2⟩ | ⟨g, a1, a2⟩
      · exact .inl ⟨by rw [← b1]; exact a1, by rw [b2]; exact a2⟩
      · rw [b1] at a1
        exact .inr ⟨gg, rfl, by cases a1; exact a2⟩
    · exact .inr ⟨gg, rfl, by omega⟩
theorem S3.start (h : S3 B N G X w0 p sz L la lc w) (hp : p < N) : S4 B N G X w0 p sz L la lc 0 (G p) w := by
  refine ⟨h, rfl, ?_, .inl ⟨rfl, rfl⟩⟩
  have := h.rows p hp
  unfold Fn at this
  simpa [Hn] using this
def upd (L : Nat → Rw) (p : Nat) (l : Rw) : Nat → Rw := fun i => if i = p then l else L i
/-- the round's end: the row is appended -/
theorem S3.more (h : S3 B N G X w0 p sz L la lc w) (h0 : Rows B N G C w0) (hp : p < N) {l : Rw} (hl : S4 B N G X w0 p sz L la lc 64 l w) {gg cap' : Nat} {w1 : World} (r1 : w1.ownsRow w0.heap.size 42 1 (.slice (some ⟨gg, 0, none⟩) (p + 1) cap') (p + 1) ((List.range p).map (fun i => (L i).v) ++ [l.v])) (t : Turn (At la) w w1) : S3 B N G X w0 (p + 1) w1.heap.size (upd L p l) (some ⟨gg, 0, none⟩) cap' w1 := by
  have z1 := h.z1
  have z2 := h.z2
  have z3 := t.size
  have hla : ∀ j, At la j → w0.heap.size ≤ j ∧ ∃ cs r, w.heap[j]? = some (.cells cs 42 r) := fun j hj => by
    obtain ⟨a1, _, a2⟩ := row_kind h.row hj
    exact ⟨a1, a2⟩
  refine ⟨h.rows.kept t (fun i hi j hj q => ?_), h.tn.then t (fun i hi q => ?_), by omega, Nat.le_refl _, ?_, fun i hi => ?_⟩
  · have := (hla j q).1
    have := (h0.kind ⟨i, hi, hj⟩).2.1
    omega
  · have := (hla i q).1
    omega
  · rw [List.range_succ, List.map_append]
    have e : (List.range p).map (fun i => (upd L p l i).v) = (List.range p).map (fun i => (L i).v) := List.map_congr_left (fun i hi => by
      have := List.mem_range.1 hi
      simp [upd, show i ≠ p by omega])
    rw [e]
    simpa [upd] using r1
  · have key : ∀ j, (∃ cs r, w.heap[j]? = some (.cells cs 40 r)) → ¬ At la j := fun j ⟨cs, r, hh⟩ q => by
      obtain ⟨_, cs', r', h2⟩ := hla j q
      exact cells_ne hh h2 (by decide) rfl
    by_cases e : i = p
    · subst e
      have q := hl
      have e1 : upd L i l i = l := by simp [upd]
      rw [e1]
      have hkd : ∀ j, At l.ao j → ∃ cs r, w.heap[j]? = some (.cells cs 40 r) := fun j hj => (row_kind q.own hj).2.2
      have hI : Ints w l.ao (Hn G i 64) := by
        have o := q.own
        rw [q.ll, ← Hn.len] at o
        exact Ints.of_row o
      refine ⟨q.ll, hI.turn t (fun _ j hj => key j (hkd j hj)), fun j hj => ?_⟩
      obtain ⟨cs, r, hh⟩ := hkd j hj
      have hlt := lt_of_heap hh
      rcases q.at_ with ⟨a1, _⟩ | ⟨g, a1, a2⟩
      · rw [a1] at hj; exact .inl hj
      · have : j = g := by
          rw [a1] at hj
          obtain ⟨b, hb, rfl⟩ := hj
          cases hb
          rfl
        exact .inr ⟨by omega, by omega, cs, r, (t.block j hlt (key j ⟨cs, r, hh⟩)).trans hh⟩
    · have e1 : upd L p l i = L i := by simp [upd, e]
      rw [e1]
      obtain ⟨a1, a2, a3⟩ := h.lg i (by omega)
      have hkd : ∀ j, At (L i).ao j → ∃ cs r, w.heap[j]? = some (.cells cs 40 r) := fun j hj => by
        rcases a3 j hj with b | ⟨_, _, b⟩
        · exact (h.rows.kind ⟨i, by omega, b⟩).2.2
        · exact b
      refine ⟨a1, a2.turn t (fun _ j hj => key j (hkd j hj)), fun j hj => ?_⟩
      rcases a3 j hj with b | ⟨b1, b2, cs, r, b3⟩
      · exact .inl b
      · exact .inr ⟨b1, by omega, cs, r, (t.block j (by omega) (key j ⟨cs, r, b3⟩)).trans b3⟩
theorem S3.none (h : Rows B N G (Fn G X) w) (t : Turn (Ds N G) w0 w) : S3 B N G X w0 0 w.heap.size G none 0 w :=
  ⟨h, t, t.size, Nat.le_refl _, World.ownsRow_nil w _ 42 1, fun i hi => by omega⟩
theorem S3.drewN (h : S3 B N G X w0 p sz L la lc w) (m : Nat) : S3 B N G X w0 p sz L la lc (w.drewN m) := ⟨h.rows, h.tn.drewN m, h.z1, h.z2, h.row, h.lg⟩
theorem S4.drewN (h : S4 B N G X w0 p sz L la lc k l w) (m : Nat) : S4 B N G X w0 p sz L la lc k l (w.drewN m) := ⟨h.st.drewN m, h.ll, h.own, h.at_⟩
theorem Sl.of_row {B p lc : Nat} {g : Nat → Value} (h : w.ownsRow B 42 1 (.slice la p lc) p ((List.range p).map g)) : Sl w la p g := by
  rcases h.2 with ⟨_, h0⟩ | ⟨b, cap', cur, hv, hb, hg, _⟩
  · exact .inl h0
  · simp only [Value.slice.injEq] at hv
    obtain ⟨rfl, _, _⟩ := hv
    refine .inr ⟨b, 0, _, _, rfl, hg, fun j hj => ?_⟩
    have := row_cell h j (g j) (by simp [hj])
    have e : (⟨b, 0, Option.none⟩ : Addr).add j = ⟨b, j, Option.none⟩ := by unfold Addr.add; split <;> simp_all
    rw [e] at this
    rw [Nat.zero_add]
    exact this
end A8
end Go.Proofs.Ytkipcdjadmocaaa
