import Derived.Test.YtgjdpgmffhihnaaFlo
set_option linter.unusedVariables false
set_option linter.unusedSimpArgs false
namespace Go.Proofs.Ytgjdpgmffhihnaa
open Go.RowKit Go.Maps
namespace F
theorem ret_int {k : IntKind} {a b : Int} (h : a = b) : Ending.returned (.int k a) = .returned (.int k b) := by rw [h]
theorem ret_two {a b c d : Value} (h : a = b) (k : c = d) : Ending.returned (.tuple #[a, c]) = .returned (.tuple #[b, d]) := by rw [h, k]
theorem infoE : (Try.prog.info? 39).map (fun i => (i.zero, i.size, i.bytes)) = some (some (.float .f64 0), 1, 8) := by kernel_rfl
theorem hide' {p : Prop} (h : p) : Hid p := h
theorem run_store_float {P : Program} {w : World} {a : Addr} {m : Mode} (k : FloatKind) (n : Nat) : (store a (.float k n) m).run P w = stored P w a (.float k n) m := run_store P w a _ m rfl
theorem alloc_cell {w w1 : World} {ob : Obj} {row : Option Nat} (hg : (w.alloc ob).grownBy w1 row) {x o : Nat} (hx : x < w.heap.size) (hr : some x ≠ row) : w1.cell? ⟨x, o, none⟩ = w.cell? ⟨x, o, none⟩ :=
  World.cell?_of_block (w := w) ((hg.block x (by simp; omega) hr).trans (Below.heap_alloc _ _ _ hx))
theorem alloc_frozen {w w1 : World} {ob : Obj} {row : Option Nat} (hg : (w.alloc ob).grownBy w1 row) {x o : Nat} (hx : x < w.heap.size) (hr : some x ≠ row) : w1.frozen? ⟨x, o, none⟩ = w.frozen? ⟨x, o, none⟩ :=
  World.frozen?_of_block (w := w) ((hg.block x (by simp; omega) hr).trans (Below.heap_alloc _ _ _ hx))
def cells (k : Nat) : List Value := [.float .f64 k]
theorem flat_at (zs : List Nat) (j : Nat) : (zs.flatMap cells)[j]? = (zs[j]?).map (fun k => .float .f64 k) := by
  induction zs generalizing j with
  | nil => simp
  | cons a r ih => cases j with
    | zero => simp [cells]
    | succ j => simpa [cells] using ih j
theorem row_at {B : Nat} {a : Addr} {cap : Nat} {zs : List Nat} {w : World} (h : w.ownsRow B 39 1 (.slice (some a) zs.length cap) zs.length (zs.flatMap cells)) (j : Nat) (k : Nat) (hj : zs[j]? = some k) : a = ⟨a.block, 0, none⟩ ∧ w.cell? ⟨a.block, j, none⟩ = some (.float .f64 k) := by
  rcases h.2 with ⟨hv, _⟩ | ⟨g, cap', cur, hv, hb, hg, h1, h2, h3, h4⟩
  · cases hv
  · simp only [Value.slice.injEq, Option.some.injEq] at hv
    obtain ⟨rfl, _, rfl⟩ := hv
    refine ⟨rfl, ?_⟩
    rw [Lib.cell_of_heap hg]
    have hl : j < zs.length := by
      rcases Nat.lt_or_ge j zs.length with q | q
      · exact q
      · rw [List.getElem?_eq_none q] at hj; cases hj
    have e1 := flat_at zs j
    rw [hj, ← h4, List.getElem?_take_of_lt (by omega), Array.getElem?_toList] at e1
    exact e1
theorem row_cap {B : Nat} {a : Addr} {cap : Nat} {zs : List Nat} {w : World} (h : w.ownsRow B 39 1 (.slice (some a) zs.length cap) zs.length (zs.flatMap cells)) : a = ⟨a.block, 0, none⟩ ∧ zs.length ≤ cap ∧ a.block < w.heap.size ∧ B ≤ a.block := by
  rcases h.2 with ⟨hv, _⟩ | ⟨g, cap', cur, hv, hb, hg, h1, h2, h3, h4⟩
  · cases hv
  · simp only [Value.slice.injEq, Option.some.injEq] at hv
    obtain ⟨rfl, _, rfl⟩ := hv
    exact ⟨rfl, h1, (Array.getElem?_eq_some_iff.1 hg).1, hb⟩
theorem row_none {B cap : Nat} {zs : List Nat} {w : World} (h : w.ownsRow B 39 1 (.slice none zs.length cap) zs.length (zs.flatMap cells)) : zs.length = 0 := by
  rcases h.2 with ⟨_, h0⟩ | ⟨g, cap', cur, hv, _⟩
  · exact h0
  · cases hv

/-- block x is an index that holds the floats zs -/
structure FI (B x bm : Nat) (ao : Option Addr) (cap : Nat) (zs : List Nat) (w : World) : Prop where
  hx : B ≤ x
  hm : B ≤ bm
  ne : x ≠ bm
  hb : w.heap[x]? = some (.cells #[.slice ao zs.length cap, .map (some bm)] 79 (0, 0))
  row : w.ownsRow B 39 1 (.slice ao zs.length cap) zs.length (zs.flatMap cells)
  map : FMap w bm zs
section
variable {B x bm : Nat} {ao : Option Addr} {cap : Nat} {zs : List Nat} {w w' : World}
theorem FI.lt (h : FI B x bm ao cap zs w) : x < w.heap.size := (Array.getElem?_eq_some_iff.1 h.hb).1
theorem FMap.lt (h : FMap w bm zs) : bm < w.heap.size := by
  obtain ⟨es, clock, hb, _⟩ := h
  exact (Array.getElem?_eq_some_iff.1 hb).1
theorem FMap.kept {S : Nat → Prop} (h : FMap w bm zs) (t : Turn S w w') (h2 : ¬ S bm) : FMap w' bm zs := by
  have hl := h.lt
  obtain ⟨es, clock, hb, he⟩ := h
  exact ⟨es, clock, (t.block bm hl h2).trans hb, he⟩
theorem FMap.nan {k : Nat} (h : FMap w bm zs) (hk : feq k k = false) : FMap w bm (zs ++ [k]) := by
  obtain ⟨es, clock, hb, he⟩ := h
  exact ⟨es, clock, hb, by rw [ents_snoc, he]; simp [hk]⟩
theorem FI.kept {S : Nat → Prop} (h : FI B x bm ao cap zs w) (t : Turn S w w') (h1 : ¬ S x) (h2 : ¬ S bm) (h3 : ∀ a, ao = some a → ¬ S a.block) : FI B x bm ao cap zs w' :=
  ⟨h.hx, h.hm, h.ne, (t.block x h.lt h1).trans h.hb, t.row h.row (fun g hg => by cases ao with | none => cases hg | some a => cases hg; exact h3 a rfl), h.map.kept t h2⟩
theorem FI.c0 (h : FI B x bm ao cap zs w) : w.cell? ⟨x, 0, none⟩ = some (.slice ao zs.length cap) := by rw [Lib.cell_of_heap h.hb]; rfl
theorem FI.c1 (h : FI B x bm ao cap zs w) : w.cell? ⟨x, 1, none⟩ = some (.map (some bm)) := by rw [Lib.cell_of_heap h.hb]; rfl
theorem FI.f0 (h : FI B x bm ao cap zs w) : w.frozen? ⟨x, 0, none⟩ = false := Lib.frozen_of_heap h.hb 0
theorem FI.apart (h : FI B x bm ao cap zs w) : ∀ a, ao = some a → a.block ≠ x ∧ a.block ≠ bm ∧ B ≤ a.block ∧ a.block < w.heap.size := by
  intro a ha
  obtain ⟨es, clock, hbm, _⟩ := h.map
  rcases h.row.2 with ⟨hv, _⟩ | ⟨g, cap', cur, hv, hb, hg, _⟩
  · rw [ha] at hv; cases hv
  · rw [ha] at hv
    simp only [Value.slice.injEq, Option.some.injEq] at hv
    obtain ⟨rfl, _, _⟩ := hv
    refine ⟨fun q => ?_, fun q => ?_, hb, (Array.getElem?_eq_some_iff.1 hg).1⟩
    · have := h.hb; rw [← q] at this; rw [show w.heap[g]? = _ from hg] at this; cases this
    · rw [← q] at hbm; rw [show w.heap[g]? = _ from hg] at hbm; cases hbm
theorem FI.alloc (h : FI B x bm ao cap zs w) (o : Obj) : FI B x bm ao cap zs (w.alloc o) := h.kept ((Turn.refl (fun _ => False) w).alloc o) (fun q => q) (fun q => q) (fun _ _ q => q)
theorem FI.drewN (h : FI B x bm ao cap zs w) (n : Nat) : FI B x bm ao cap zs (w.drewN n) := h.kept ((Turn.refl (fun _ => False) w).drewN n) (fun q => q) (fun q => q) (fun _ _ q => q)
end
/-- what a new thing's coming may turn: the index's head, its map, its row -/
def Own (x bm : Nat) (ao : Option Addr) (j : Nat) : Prop := j = x ∨ j = bm ∨ ∃ a, ao = some a ∧ j = a.block

set_option maxRecDepth 100000 in
set_option maxHeartbeats 1000000 in
theorem of_old (B x bm : Nat) (ao : Option Addr) (cap : Nat) (zs : List Nat) (k : Nat) (w : World) (h : FI B x bm ao cap zs w) (hin : pos k zs ≠ 0) :
    Calls Try.prog 25 #[.pointer (some ⟨x, 0, none⟩), .float .f64 k] w fun e w' => e = .returned (.int .i64 (pos k zs : Nat)) ∧ w' = w := by
  have c1 := h.c1
  have l1 := look h.map k
  rw [show decide (pos k zs ≠ 0) = true from by simpa using hin] at l1
  clear hin
  generalize ((pos k zs : Nat) : Int) = m at *
  go_enter Try.func25, Try.ntmps25
  go_wp2
  go_ret
  exact ⟨rfl, rfl⟩

set_option maxRecDepth 100000 in
set_option maxHeartbeats 1000000 in
theorem find_any (B x bm : Nat) (ao : Option Addr) (cap : Nat) (zs : List Nat) (k : Nat) (w : World) (h : FI B x bm ao cap zs w) :
    Calls Try.prog 26 #[.pointer (some ⟨x, 0, none⟩), .float .f64 k] w fun e w' => e = .returned (.tuple #[.int .i64 (pos k zs : Nat), .bool (decide (pos k zs ≠ 0))]) ∧ w' = w := by
  have c1 := h.c1
  have l1 := look h.map k
  generalize decide (pos k zs ≠ 0) = d at *
  generalize ((pos k zs : Nat) : Int) = m at *
  go_enter Try.func26, Try.ntmps26
  go_wp2
  go_ret2
  exact ⟨rfl, rfl⟩

set_option maxRecDepth 100000 in
set_option maxHeartbeats 1000000 in
theorem at_yes (B x bm : Nat) (ao : Option Addr) (cap : Nat) (zs : List Nat) (n : Int) (k : Nat) (w : World) (h : FI B x bm ao cap zs w) (h1 : 1 ≤ n) (h2 : n ≤ (zs.length : Int)) (hm : (zs.length : Int) ≤ 1048576) (hk : zs[(n - 1).toNat]? = some k) :
    Calls Try.prog 27 #[.pointer (some ⟨x, 0, none⟩), .int .i64 n] w fun e w' => e = .returned (.tuple #[.float .f64 k, .bool true]) ∧ w' = w := by
  have c0 := h.c0
  have hrow := h.row
  cases ao with
  | none => have := row_none hrow; omega
  | some a =>
    obtain ⟨ha, hc⟩ := row_at hrow _ k hk
    rw [ha] at c0
    obtain ⟨m, rfl⟩ : ∃ m : Nat, n = (m : Int) + 1 := ⟨(n - 1).toNat, by omega⟩
    have e1 : ((m : Int) + 1 - 1).toNat = m := by omega
    rw [e1] at hc
    have hcap : zs.length ≤ cap := (row_cap hrow).2.1
    have g1 : decide ((m : Int) + 1 < 1) = false := by simp; omega
    have g2 : decide ((zs.length : Int) < (m : Int) + 1) = false := by simp; omega
    generalize a.block = g at *
    clear e1 hk ha hrow h h1
    go_enter Try.func27, Try.ntmps27
    go_wp2
    go_ret2
    exact ⟨ret_two rfl rfl, rfl⟩

set_option maxRecDepth 100000 in
set_option maxHeartbeats 1000000 in
theorem at_no (B x bm : Nat) (ao : Option Addr) (cap : Nat) (zs : List Nat) (n : Int) (w : World) (h : FI B x bm ao cap zs w) (h1 : n < 1 ∨ (zs.length : Int) < n) :
    Calls Try.prog 27 #[.pointer (some ⟨x, 0, none⟩), .int .i64 n] w fun e w' => e = .returned (.tuple #[.float .f64 0, .bool false]) ∧ w' = w := by
  have c0 := h.c0
  clear h
  by_cases q : n < 1
  · go_enter Try.func27, Try.ntmps27
    go_wp2
    go_ret2
    exact ⟨ret_two rfl rfl, rfl⟩
  · have q2 : (zs.length : Int) < n := by omega
    have g1 : decide (n < 1) = false := by simpa using q
    have g2 : decide ((zs.length : Int) < n) = true := by simpa using q2
    clear h1 q q2
    go_enter Try.func27, Try.ntmps27
    go_wp2
    go_ret2
    exact ⟨ret_two rfl rfl, rfl⟩

set_option maxRecDepth 100000 in
set_option maxHeartbeats 1000000 in
theorem len_any (B x bm : Nat) (ao : Option Addr) (cap : Nat) (zs : List Nat) (w : World) (h : FI B x bm ao cap zs w) :
    Calls Try.prog 29 #[.pointer (some ⟨x, 0, none⟩)] w fun e w' => e = .returned (.int .i64 zs.length) ∧ w' = w := by
  have c0 := h.c0
  clear h
  go_enter Try.func29, Try.ntmps29
  go_wp2
  go_ret
  exact ⟨rfl, rfl⟩

set_option maxRecDepth 100000 in
set_option maxHeartbeats 1000000 in
theorem new_any (w : World) :
    Calls Try.prog 22 #[] w fun e w' => e = .returned (.pointer (some ⟨w.heap.size + 1, 0, none⟩)) ∧ FI w.heap.size (w.heap.size + 1) w.heap.size none 0 [] w' ∧ Below w.heap.size w w' ∧ w'.heap.size = w.heap.size + 2 := by
  have hmm := @run_makeMap Try.prog
  go_enter Try.func22, Try.ntmps22
  go_wp2
  go_ret
  refine ⟨rfl, ⟨by omega, by omega, by omega, ?_, World.ownsRow_nil _ _ _ _, ⟨#[], 0, ?_, rfl⟩⟩, ((Below.refl _ _).alloc (Nat.le_refl _) _).alloc (by simp) _, by simp⟩
  · have := heap_alloc_new (w.alloc (.map #[] 0)) (.cells #[.slice none 0 0, .map (some w.heap.size)] 79)
    simpa using this
  · exact (Below.heap_alloc _ _ _ (by simp)).trans (heap_alloc_new w (.map #[] 0))

set_option maxRecDepth 100000 in
set_option maxHeartbeats 1000000 in
theorem all_any (B x bm : Nat) (ao : Option Addr) (cap : Nat) (zs : List Nat) (w : World) (h : FI B x bm ao cap zs w) :
    Calls Try.prog 30 #[.pointer (some ⟨x, 0, none⟩)] w fun e w' => e = .returned (.func (.func 49) #[] #[.pointer (some ⟨w.heap.size, 0, none⟩)]) ∧ w' = w.alloc (.cells #[.slice ao zs.length cap] 48) := by
  have c0 := h.c0
  have hlx := h.lt
  have hmf : ∀ (fn : Fn) (first cap : Array Value) (w : World), (Instr.makeFunc fn first cap).run Try.prog w = .ok (.func fn first cap) w := fun _ _ _ _ => rfl
  clear h
  go_enter Try.func30, Try.ntmps30
  go_wp2
  go_ret
  exact ⟨rfl, rfl⟩

set_option maxRecDepth 100000 in
set_option maxHeartbeats 1000000 in
theorem alike_same (k : Nat) (w : World) : Calls Try.prog 28 #[.float .f64 k, .float .f64 k] w fun e w' => e = .returned (.bool true) ∧ w' = w := by
  by_cases hk : FloatKind.f64.format.order k k = some .eq
  · have g1 : (FloatKind.f64.format.order k k == some .eq) = true := by simpa using hk
    have g2 : (FloatKind.f64.format.order k k != some .eq) = false := by simpa using hk
    clear hk
    go_enter Try.func28, Try.ntmps28
    go_wp2
    go_ret
    exact ⟨rfl, rfl⟩
  · have g1 : (FloatKind.f64.format.order k k == some .eq) = false := by simpa using hk
    have g2 : (FloatKind.f64.format.order k k != some .eq) = true := by simpa using hk
    clear hk
    go_enter Try.func28, Try.ntmps28
    go_wp2
    go_ret
    exact ⟨rfl, rfl⟩

theorem feq_ord (a b : Nat) : (FloatKind.f64.format.order a b == some .eq) = feq a b := rfl
theorem pos_append (k : Nat) (p q : List Nat) (h : pos k p = 0) : pos k (p ++ q) = if pos k q = 0 then 0 else p.length + pos k q := by
  induction p with
  | nil =>
    by_cases hq : pos k q = 0
    · simp [hq]
    · simp [hq]
  | cons y r ih =>
    simp only [pos] at h
    have hy : feq y k = false := by
      cases hq : feq y k
      · rfl
      · simp [hq] at h
    have hr : pos k r = 0 := by
      by_cases q : pos k r = 0
      · exact q
      · simp [hy, q] at h
    simp only [List.cons_append, pos, hy, ih hr, List.length_cons]
    by_cases hq : pos k q = 0
    · simp [hq]
    · simp [hq]; omega
/-- how far the search has come -/
theorem pos_take_yes {zs : List Nat} {m z k : Nat} (h : zs[m]? = some z) (h0 : pos k (zs.take m) = 0) (hz : feq z k = true) : pos k zs = m + 1 := by
  have hm : m < zs.length := by
    rcases Nat.lt_or_ge m zs.length with q | q
    · exact q
    · rw [List.getElem?_eq_none q] at h; cases h
  have e : zs.take m ++ z :: zs.drop (m + 1) = zs := by
    rw [List.getElem?_eq_getElem hm] at h
    simp only [Option.some.injEq] at h
    rw [← h, List.getElem_cons_drop, List.take_append_drop]
  have := pos_append k (zs.take m) (z :: zs.drop (m + 1)) h0
  rw [e, List.length_take] at this
  simp [pos, hz] at this
  omega
theorem pos_take_no {zs : List Nat} {m z k : Nat} (h : zs[m]? = some z) (h0 : pos k (zs.take m) = 0) (hz : feq z k = false) : pos k (zs.take (m + 1)) = 0 := by
  have hm : m < zs.length := by
    rcases Nat.lt_or_ge m zs.length with q | q
    · exact q
    · rw [List.getElem?_eq_none q] at h; cases h
  rw [List.getElem?_eq_getElem hm] at h
  simp only [Option.some.injEq] at h
  rw [List.take_succ_eq_append_getElem hm, h, pos_snoc]
  simp [h0, hz]

set_option maxRecDepth 100000 in
set_option maxHeartbeats 1000000 in
theorem place_any (B : Nat) (lo : Option Addr) (lc : Nat) (zs : List Nat) (k : Nat) (w : World) (h : w.ownsRow B 39 1 (.slice lo zs.length lc) zs.length (zs.flatMap cells)) (hz : zs.length ≤ 1000) :
    Calls Try.prog 24 #[.slice lo zs.length lc, .float .f64 k] w fun e w' => e = .returned (.int .i64 (((pos k zs : Nat) : Int) - 1)) ∧ w' = w := by
  have Hrow := hide' h
  clear h
  go_enter Try.func24, Try.ntmps24
  go_wp2_with fail
  go_loopw [5] (fun i w' => ∃ m : Nat, m ≤ zs.length ∧ i = .int .i64 m ∧ Hid (pos k (zs.take m) = 0) ∧ w' = w) (fun i _ => zs.length - (intOf i).toNat)
  case atStart => exact ⟨0, Nat.zero_le _, rfl, hide' (by simp [pos]), rfl⟩
  case round =>
    obtain ⟨m, hm, rfl, hp, rfl⟩ := hrel
    by_cases hlt : m < zs.length
    · obtain ⟨z, hj⟩ : ∃ z, zs[m]? = some z := ⟨_, List.getElem?_eq_getElem hlt⟩
      rcases lo with _ | ⟨b, o, sp⟩
      · have := row_none Hrow.out; omega
      · obtain ⟨ha, hc⟩ := row_at Hrow.out m z hj
        have hcap := (row_cap Hrow.out).2.1
        simp only [Addr.mk.injEq, true_and] at ha
        obtain ⟨rfl, rfl⟩ := ha
        have hmi : (m : Int) < (zs.length : Int) := by omega
        cases hq : feq z k
        · have g1 : (FloatKind.f64.format.order z k == some .eq) = false := hq
          have hp2 := hide' (pos_take_no hj hp.out hq)
          clear hj hq
          go_wp2
          exact ⟨⟨m + 1, by omega, by go_num, hp2, trivial⟩, by simp [intOf]; omega⟩
        · have g1 : (FloatKind.f64.format.order z k == some .eq) = true := hq
          have hp2 := hide' (pos_take_yes hj hp.out hq)
          clear hj hq
          go_wp2
          go_ret
          exact ⟨ret_int (by rw [hp2.out]; omega), rfl⟩
    · have hpz : Hid (pos k zs = 0) := by
        have := hp.out
        rw [List.take_of_length_le (by omega)] at this
        exact this
      have hmi : ¬ (m : Int) < (zs.length : Int) := by omega
      go_wp2
      go_ret
      exact ⟨ret_int (by rw [hpz.out]; rfl), rfl⟩

set_option maxRecDepth 100000 in
set_option maxHeartbeats 2000000 in
theorem of_num (B x bm : Nat) (ao : Option Addr) (cap : Nat) (zs : List Nat) (k : Nat) (w : World) (h : FI B x bm ao cap zs w) (hin : pos k zs = 0) (hf : (zs.length : Int) < (1048576 : Int)) (hkk : feq k k = true) :
    Calls Try.prog 25 #[.pointer (some ⟨x, 0, none⟩), .float .f64 k] w fun e w' => e = .returned (.int .i64 (zs.length + 1 : Nat)) ∧ ∃ g cap', FI B x bm (some ⟨g, 0, none⟩) cap' (zs ++ [k]) w' ∧ Turn (Own x bm ao) w w' ∧ (ao = some ⟨g, 0, none⟩ ∨ w.heap.size ≤ g) := by
  have c1 := h.c1
  have c0 := h.c0
  have f0 := h.f0
  have hlx := h.lt
  have hlm := h.map.lt
  have hBx := h.hx
  have hrow := h.row
  have hnot := h.apart
  have l1 := look h.map k
  have Hin := hide' hin
  rw [show decide (pos k zs ≠ 0) = false from by simpa using hin] at l1
  clear hin
  generalize ((pos k zs : Nat) : Int) = m at l1
  have Hkk := hide' hkk
  have gk : (FloatKind.f64.format.order k k == some .eq) = true := hkk
  clear hkk
  obtain ⟨i0, hi, hz0, hz1, hz2⟩ := info_parts infoE
  have hxr : some x ≠ (Value.slice ao zs.length cap).ownBlock := by
    intro q; cases ao with
    | none => cases q
    | some a => exact (hnot a rfl).1 (by simpa [Value.ownBlock] using q.symm)
  have hmr : some bm ≠ (Value.slice ao zs.length cap).ownBlock := by
    intro q; cases ao with
    | none => cases q
    | some a => exact (hnot a rfl).2.1 (by simpa [Value.ownBlock] using q.symm)
  have hge : decide ((1048576 : Int) ≤ (zs.length : Int)) = false := by simpa using hf
  have hfl : zs.length ≤ 1048576 := by omega
  have b1 : zs.length + 1 ≤ maxLen := by unfold maxLen; omega
  have b2 : (zs.length + 1) * 8 ≤ 140737488355328 := by omega
  have B1 : Hid (zs.length + 1 ≤ maxLen) := b1
  have B2 : Hid ((zs.length + 1) * 8 ≤ 140737488355328) := b2
  have hBw : B ≤ w.heap.size := by omega
  have HH := hide' h
  clear hf hfl b1 b2 h
  go_enter Try.func25, Try.ntmps25
  go_wp2_with (at_builtin; refine wpList_append_lies _ rfl _ _ 48 rfl B 39 i0 (.float .f64 0) 1 8 Try.underlying48 hi hz0 hz1 hz2 rfl (by decide) _ _ _ rfl (hrow.alloc _) ⟨w.heap.size, 0, none⟩ 1 1 [.float .f64 k] rfl rfl (cell_one_new _ _ _) (by simp [Value.oneCell']) (by decide) B1.out B2.out (by simp; omega) (w.heap.size + 1) (by simp) ?_; intro g cap' w1 hrow1 hgrow hat1 hlt1; have c0' := (alloc_cell hgrow hlx hxr).trans c0; have c1' := (alloc_cell (o := 1) hgrow hlx hxr).trans c1; have f0' := (alloc_frozen hgrow hlx hxr).trans f0; clear c0 c1 f0)
  have hat2 : (Value.slice ao zs.length cap).ownBlock = some g ∨ g = w.heap.size + 1 := hat1
  clear hat1
  have hxg : x ≠ g := by
    rcases hat2 with q | q
    · intro e; exact hxr (by rw [e]; exact q.symm)
    · omega
  have hmg : bm ≠ g := by
    rcases hat2 with q | q
    · intro e; exact hmr (by rw [e]; exact q.symm)
    · omega
  have hgo : ao = some ⟨g, 0, none⟩ ∨ w.heap.size ≤ g := by
    rcases hat2 with q | q
    · cases ao with
      | none => cases q
      | some a =>
        left
        rcases hrow.2 with ⟨hv, _⟩ | ⟨g', cap'', cur, hv, _⟩
        · cases hv
        · simp only [Value.slice.injEq, Option.some.injEq] at hv
          obtain ⟨rfl, _, _⟩ := hv
          simp only [Value.ownBlock, Option.some.injEq] at q
          rw [q]
    · right; omega
  have hsz1 : w.heap.size + 1 ≤ w1.heap.size := by have := hgrow.size; simpa using this
  have t1 : Turn (fun j => (Value.slice ao zs.length cap).ownBlock = some j) w w1 := ((Turn.refl _ w).alloc _).grown hgrow (fun j hj _ => hj)
  have hmap2 : FMap (w1.setCell ⟨x, 0, none⟩ (.slice (some ⟨g, 0, none⟩) (zs.length + 1) cap')) bm zs := (HH.out.map.kept t1 (fun q => hmr q.symm)).kept ((Turn.refl (fun j => j = x) w1).setCell (p := ⟨x, 0, none⟩) (fun _ => rfl) _) (fun q => HH.out.ne q.symm)
  have hrow2 : (w1.setCell ⟨x, 0, none⟩ (.slice (some ⟨g, 0, none⟩) (zs.length + 1) cap')).ownsRow B 39 1 (.slice (some ⟨g, 0, none⟩) (zs.length + 1) cap') (zs.length + 1) (zs.flatMap cells ++ [.float .f64 k]) := (Turn.refl (fun j => j = x) w1).setCell (p := ⟨x, 0, none⟩) (fun _ => rfl) _ |>.row hrow1 (fun g' hg' => by cases hg'; exact fun e => hxg e.symm)
  have t2 : Turn (Own x bm ao) w (w1.setCell ⟨x, 0, none⟩ (.slice (some ⟨g, 0, none⟩) (zs.length + 1) cap')) :=
    (((Turn.refl _ w).alloc _).grown hgrow (fun j hj _ => by cases ao with
      | none => cases hj
      | some a => cases hj; exact .inr (.inr ⟨a, rfl, rfl⟩))).setCell (p := ⟨x, 0, none⟩) (fun _ => .inl rfl) _
  have hb1 : w1.heap[x]? = some (.cells #[.slice ao zs.length cap, .map (some bm)] 79 (0, 0)) := (hgrow.block x (by simp; omega) hxr).trans ((Below.heap_alloc _ _ _ hlx).trans HH.out.hb)
  have hb2 : (w1.setCell ⟨x, 0, none⟩ (.slice (some ⟨g, 0, none⟩) (zs.length + 1) cap')).heap[x]? = some (.cells #[.slice (some ⟨g, 0, none⟩) (zs.length + 1) cap', .map (some bm)] 79 (0, 0)) := by
    simp [World.setCell, Array.getElem?_modify, hb1]
  generalize (w1.setCell ⟨x, 0, none⟩ (.slice (some ⟨g, 0, none⟩) (zs.length + 1) cap')) = w2 at *
  have d0 : w2.cell? ⟨x, 0, none⟩ = some (.slice (some ⟨g, 0, none⟩) (zs.length + 1) cap') := by rw [Lib.cell_of_heap hb2]; rfl
  have d1 : w2.cell? ⟨x, 1, none⟩ = some (.map (some bm)) := by rw [Lib.cell_of_heap hb2]; rfl
  clear c0' c1' f0' hb1 hrow1 hrow hgrow t1
  have hup := Classical.axiomOfChoice (fun q : Nat => put (show FMap (w2.drewN q) bm zs from hmap2) k Hin.out Hkk.out)
  obtain ⟨F, hF⟩ := hup
  have hr1 : (Instr.mapUpdate 77 (.map (some bm)) (.float .f64 k) (.int .i64 ((zs.length : Int) + 1))).run Try.prog w2.drew = .ok () (F 1) := (hF 1).1
  have hmap3 : FMap (F 1) bm (zs ++ [k]) := (hF 1).2.1
  have hg3 : (w2.drewN 1).grownBy (F 1) (some bm) := (hF 1).2.2
  clear hF
  generalize F 1 = w3 at *
  have t3 : Turn (Own x bm ao) w w3 := (t2.drewN 1).grown hg3 (fun j hj _ => by cases hj; exact .inr (.inl rfl))
  have s2 : Turn (fun j => j = bm) w2 w3 := ((Turn.refl _ w2).drewN 1).grown hg3 (fun j hj _ => by cases hj; rfl)
  have hlx2 : x < w2.heap.size := (Array.getElem?_eq_some_iff.1 hb2).1
  have hb3 : w3.heap[x]? = some (.cells #[.slice (some ⟨g, 0, none⟩) (zs.length + 1) cap', .map (some bm)] 79 (0, 0)) := (s2.block x hlx2 HH.out.ne).trans hb2
  have hrow3 := s2.row hrow2 (fun g' hg' => by cases hg'; exact fun e => hmg e.symm)
  have k0 : w3.cell? ⟨x, 0, none⟩ = some (.slice (some ⟨g, 0, none⟩) (zs.length + 1) cap') := by rw [Lib.cell_of_heap hb3]; rfl
  have hfin : FI B x bm (some ⟨g, 0, none⟩) cap' (zs ++ [k]) w3 := by
    refine ⟨HH.out.hx, HH.out.hm, HH.out.ne, ?_, ?_, hmap3⟩
    · rw [List.length_append]; exact hb3
    · rw [List.length_append, List.flatMap_append]; simpa [cells] using hrow3
  clear hmap2 hrow2 t2 hb2 hmap3 hg3 s2 hb3 hrow3 hnot HH
  go_region
  go_wp2
  go_ret
  exact ⟨ret_int (by simp), g, cap', hfin, t3, hgo⟩

set_option maxRecDepth 100000 in
set_option maxHeartbeats 2000000 in
theorem of_nan (B x bm : Nat) (ao : Option Addr) (cap : Nat) (zs : List Nat) (k : Nat) (w : World) (h : FI B x bm ao cap zs w) (hin : pos k zs = 0) (hf : (zs.length : Int) < (1048576 : Int)) (hkk : feq k k = false) :
    Calls Try.prog 25 #[.pointer (some ⟨x, 0, none⟩), .float .f64 k] w fun e w' => e = .returned (.int .i64 (zs.length + 1 : Nat)) ∧ ∃ g cap', FI B x bm (some ⟨g, 0, none⟩) cap' (zs ++ [k]) w' ∧ Turn (Own x bm ao) w w' ∧ (ao = some ⟨g, 0, none⟩ ∨ w.heap.size ≤ g) := by
  have c1 := h.c1
  have c0 := h.c0
  have f0 := h.f0
  have hlx := h.lt
  have hlm := h.map.lt
  have hBx := h.hx
  have hrow := h.row
  have hnot := h.apart
  have l1 := look h.map k
  have Hin := hide' hin
  rw [show decide (pos k zs ≠ 0) = false from by simpa using hin] at l1
  clear hin
  generalize ((pos k zs : Nat) : Int) = m at l1
  have Hkk := hide' hkk
  have gk : (FloatKind.f64.format.order k k == some .eq) = false := hkk
  clear hkk
  obtain ⟨i0, hi, hz0, hz1, hz2⟩ := info_parts infoE
  have hxr : some x ≠ (Value.slice ao zs.length cap).ownBlock := by
    intro q; cases ao with
    | none => cases q
    | some a => exact (hnot a rfl).1 (by simpa [Value.ownBlock] using q.symm)
  have hmr : some bm ≠ (Value.slice ao zs.length cap).ownBlock := by
    intro q; cases ao with
    | none => cases q
    | some a => exact (hnot a rfl).2.1 (by simpa [Value.ownBlock] using q.symm)
  have hge : decide ((1048576 : Int) ≤ (zs.length : Int)) = false := by simpa using hf
  have hfl : zs.length ≤ 1048576 := by omega
  have b1 : zs.length + 1 ≤ maxLen := by unfold maxLen; omega
  have b2 : (zs.length + 1) * 8 ≤ 140737488355328 := by omega
  have B1 : Hid (zs.length + 1 ≤ maxLen) := b1
  have B2 : Hid ((zs.length + 1) * 8 ≤ 140737488355328) := b2
  have hBw : B ≤ w.heap.size := by omega
  have HH := hide' h
  clear hf hfl b1 b2 h
  go_enter Try.func25, Try.ntmps25
  go_wp2_with (at_builtin; refine wpList_append_lies _ rfl _ _ 48 rfl B 39 i0 (.float .f64 0) 1 8 Try.underlying48 hi hz0 hz1 hz2 rfl (by decide) _ _ _ rfl (hrow.alloc _) ⟨w.heap.size, 0, none⟩ 1 1 [.float .f64 k] rfl rfl (cell_one_new _ _ _) (by simp [Value.oneCell']) (by decide) B1.out B2.out (by simp; omega) (w.heap.size + 1) (by simp) ?_; intro g cap' w1 hrow1 hgrow hat1 hlt1; have c0' := (alloc_cell hgrow hlx hxr).trans c0; have c1' := (alloc_cell (o := 1) hgrow hlx hxr).trans c1; have f0' := (alloc_frozen hgrow hlx hxr).trans f0; clear c0 c1 f0)
  have hat2 : (Value.slice ao zs.length cap).ownBlock = some g ∨ g = w.heap.size + 1 := hat1
  clear hat1
  have hxg : x ≠ g := by
    rcases hat2 with q | q
    · intro e; exact hxr (by rw [e]; exact q.symm)
    · omega
  have hmg : bm ≠ g := by
    rcases hat2 with q | q
    · intro e; exact hmr (by rw [e]; exact q.symm)
    · omega
  have hgo : ao = some ⟨g, 0, none⟩ ∨ w.heap.size ≤ g := by
    rcases hat2 with q | q
    · cases ao with
      | none => cases q
      | some a =>
        left
        rcases hrow.2 with ⟨hv, _⟩ | ⟨g', cap'', cur, hv, _⟩
        · cases hv
        · simp only [Value.slice.injEq, Option.some.injEq] at hv
          obtain ⟨rfl, _, _⟩ := hv
          simp only [Value.ownBlock, Option.some.injEq] at q
          rw [q]
    · right; omega
  have hsz1 : w.heap.size + 1 ≤ w1.heap.size := by have := hgrow.size; simpa using this
  have t1 : Turn (fun j => (Value.slice ao zs.length cap).ownBlock = some j) w w1 := ((Turn.refl _ w).alloc _).grown hgrow (fun j hj _ => hj)
  have hmap2 : FMap (w1.setCell ⟨x, 0, none⟩ (.slice (some ⟨g, 0, none⟩) (zs.length + 1) cap')) bm zs := (HH.out.map.kept t1 (fun q => hmr q.symm)).kept ((Turn.refl (fun j => j = x) w1).setCell (p := ⟨x, 0, none⟩) (fun _ => rfl) _) (fun q => HH.out.ne q.symm)
  have hrow2 : (w1.setCell ⟨x, 0, none⟩ (.slice (some ⟨g, 0, none⟩) (zs.length + 1) cap')).ownsRow B 39 1 (.slice (some ⟨g, 0, none⟩) (zs.length + 1) cap') (zs.length + 1) (zs.flatMap cells ++ [.float .f64 k]) := (Turn.refl (fun j => j = x) w1).setCell (p := ⟨x, 0, none⟩) (fun _ => rfl) _ |>.row hrow1 (fun g' hg' => by cases hg'; exact fun e => hxg e.symm)
  have t2 : Turn (Own x bm ao) w (w1.setCell ⟨x, 0, none⟩ (.slice (some ⟨g, 0, none⟩) (zs.length + 1) cap')) :=
    (((Turn.refl _ w).alloc _).grown hgrow (fun j hj _ => by cases ao with
      | none => cases hj
      | some a => cases hj; exact .inr (.inr ⟨a, rfl, rfl⟩))).setCell (p := ⟨x, 0, none⟩) (fun _ => .inl rfl) _
  have hb1 : w1.heap[x]? = some (.cells #[.slice ao zs.length cap, .map (some bm)] 79 (0, 0)) := (hgrow.block x (by simp; omega) hxr).trans ((Below.heap_alloc _ _ _ hlx).trans HH.out.hb)
  have hb2 : (w1.setCell ⟨x, 0, none⟩ (.slice (some ⟨g, 0, none⟩) (zs.length + 1) cap')).heap[x]? = some (.cells #[.slice (some ⟨g, 0, none⟩) (zs.length + 1) cap', .map (some bm)] 79 (0, 0)) := by
    simp [World.setCell, Array.getElem?_modify, hb1]
  generalize (w1.setCell ⟨x, 0, none⟩ (.slice (some ⟨g, 0, none⟩) (zs.length + 1) cap')) = w2 at *
  have d0 : w2.cell? ⟨x, 0, none⟩ = some (.slice (some ⟨g, 0, none⟩) (zs.length + 1) cap') := by rw [Lib.cell_of_heap hb2]; rfl
  have d1 : w2.cell? ⟨x, 1, none⟩ = some (.map (some bm)) := by rw [Lib.cell_of_heap hb2]; rfl
  clear c0' c1' f0' hb1 hrow1 hrow hgrow t1
  have hfin : FI B x bm (some ⟨g, 0, none⟩) cap' (zs ++ [k]) w2 := by
    refine ⟨HH.out.hx, HH.out.hm, HH.out.ne, ?_, ?_, hmap2.nan Hkk.out⟩
    · rw [List.length_append]; exact hb2
    · rw [List.length_append, List.flatMap_append]; simpa [cells] using hrow2
  clear hmap2 hrow2 hb2 hnot HH
  go_wp2
  go_ret
  exact ⟨ret_int (by simp), g, cap', hfin, t2, hgo⟩
end F
end Go.Proofs.Ytgjdpgmffhihnaa
