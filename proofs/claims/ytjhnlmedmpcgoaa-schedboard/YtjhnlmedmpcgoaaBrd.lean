import Derived.Test.YtjhnlmedmpcgoaaCln
set_option linter.unusedVariables false
set_option linter.unusedSimpArgs false
namespace Go.Proofs.Ytjhnlmedmpcgoaa
open Go.RowKit
namespace C
/-- a task on a board: its machine, and its end -/
abbrev Tk := (Nat × Value) × Int
def ifv (x : Tk) : Value := .iface x.1.1 x.1.2
def tk (x : Tk) : List Value := [ifv x, .int .i64 x.2]
theorem info91 : (Try.prog.info? 91).map (fun i => (i.zero, i.size, i.bytes)) = some (some (.agg #[.nilIface, .int .i64 0]), 2, 24) := by kernel_rfl
/-- BLOCK b IS A BOARD -/
structure Bd (B b : Nat) (ao : Option Addr) (cap : Nat) (L : List Tk) (now : Nat) (w : World) : Prop where
  hb : w.heap[b]? = some (.cells #[.slice ao L.length cap, .int .i64 (now : Nat)] 75 (0, 0))
  row : w.ownsRow B 91 2 (.slice ao L.length cap) L.length (L.flatMap tk)
  lo : B ≤ b
variable {B b : Nat} {ao : Option Addr} {cap : Nat} {L : List Tk} {now : Nat} {w w' : World}
theorem Bd.lt (h : Bd B b ao cap L now w) : b < w.heap.size := lt_of_heap h.hb
theorem Bd.kind (h : Bd B b ao cap L now w) {j : Nat} (hj : At ao j) : ∃ cs r, w.heap[j]? = some (.cells cs 91 r) := by
  obtain ⟨a, rfl, rfl⟩ := hj
  rcases h.row.2 with ⟨hv, _⟩ | ⟨g', cap', cur, hv, hb, hg', _⟩
  · cases hv
  · simp only [Value.slice.injEq, Option.some.injEq] at hv
    obtain ⟨rfl, _, _⟩ := hv
    exact ⟨_, _, hg'⟩
theorem Bd.at (h : Bd B b ao cap L now w) {j : Nat} (hj : At ao j) : j ≠ b ∧ B ≤ j ∧ j < w.heap.size := by
  obtain ⟨a, rfl, rfl⟩ := hj
  rcases h.row.2 with ⟨hv, _⟩ | ⟨g', cap', cur, hv, hb, hg', _⟩
  · cases hv
  · simp only [Value.slice.injEq, Option.some.injEq] at hv
    obtain ⟨rfl, _, _⟩ := hv
    exact ⟨cells_ne hg' h.hb (by decide), hb, lt_of_heap hg'⟩
theorem Bd.own (h : Bd B b ao cap L now w) {j : Nat} (hj : Own b ao j) : B ≤ j ∧ j < w.heap.size := by
  rcases hj with rfl | hj
  · exact ⟨h.lo, h.lt⟩
  · exact (h.at hj).2
theorem Bd.kept {S : Nat → Prop} (h : Bd B b ao cap L now w) (t : Turn S w w') (hn : ∀ j, Own b ao j → ¬ S j) : Bd B b ao cap L now w' :=
  ⟨(t.block b h.lt (hn b (.inl rfl))).trans h.hb, t.row h.row (fun j hj => hn j (.inr (own_at hj))), h.lo⟩
theorem Bd.c0 (h : Bd B b ao cap L now w) : w.cell? ⟨b, 0, none⟩ = some (.slice ao L.length cap) := by rw [Lib.cell_of_heap h.hb]; rfl
theorem Bd.c1 (h : Bd B b ao cap L now w) : w.cell? ⟨b, 1, none⟩ = some (.int .i64 (now : Nat)) := by rw [Lib.cell_of_heap h.hb]; rfl
theorem Bd.fx (h : Bd B b ao cap L now w) (j : Nat) : w.frozen? ⟨b, j, none⟩ = false := Lib.frozen_of_heap h.hb j
/-- a board, and the blocks that are its own -/
def Bo (D : Nat → Prop) (B b : Nat) (L : List Tk) (now : Nat) (w : World) : Prop := ∃ ao cap, Bd B b ao cap L now w ∧ ∀ j, D j ↔ Own b ao j
variable {D : Nat → Prop}
theorem Bo.lo (h : Bo D B b L now w) {j : Nat} (hj : D j) : B ≤ j ∧ j < w.heap.size := by
  obtain ⟨ao, cap, hm, hd⟩ := h
  exact hm.own ((hd j).1 hj)
theorem Bo.kept {S : Nat → Prop} (h : Bo D B b L now w) (t : Turn S w w') (hn : ∀ j, D j → ¬ S j) : Bo D B b L now w' := by
  obtain ⟨ao, cap, hm, hd⟩ := h
  exact ⟨ao, cap, hm.kept t (fun j hj => hn j ((hd j).2 hj)), hd⟩
theorem Bo.kind (h : Bo D B b L now w) {j : Nat} (hj : D j) : ∃ cs t r, w.heap[j]? = some (.cells cs t r) ∧ (t = 75 ∨ t = 91) := by
  obtain ⟨ao, cap, hm, hd⟩ := h
  rcases (hd j).1 hj with rfl | q
  · exact ⟨_, _, _, hm.hb, .inl rfl⟩
  · obtain ⟨cs, r, hh⟩ := hm.kind q
    exact ⟨_, _, _, hh, .inr rfl⟩
def BTo (D : Nat → Prop) (B b : Nat) (L : List Tk) (now : Nat) (w w' : World) : Prop := ∃ D', Bo D' B b L now w' ∧ Turn D w w' ∧ ∀ j, D' j → D j ∨ w.heap.size ≤ j
set_option maxRecDepth 100000 in
set_option maxHeartbeats 400000 in
theorem board_any (w : World) (hB : B ≤ w.heap.size) : Calls Try.prog 21 #[] w fun e w' => e = .returned (.pointer (some ⟨w.heap.size, 0, none⟩)) ∧ Bo (fun j => j = w.heap.size) B w.heap.size [] 0 w' ∧ Below w.heap.size w w' ∧ w'.heap.size = w.heap.size + 1 := by
  have K : Hid (Bo (fun j => j = w.heap.size) B w.heap.size [] 0 (w.alloc (.cells #[.slice none 0 0, .int .i64 0] 75))) := by
    refine hide' ⟨none, 0, ⟨heap_alloc_new _ _, World.ownsRow_nil _ _ _ _, hB⟩, fun j => ⟨.inl, ?_⟩⟩
    rintro (q | ⟨a, ha, _⟩)
    · exact q
    · cases ha
  have K2 := hide' ((Below.refl w.heap.size w).alloc (Nat.le_refl _) (.cells #[.slice none 0 0, .int .i64 0] 75))
  clear hB
  go_enter Try.func21, Try.ntmps21
  go_wp2
  go_ret
  exact ⟨rfl, K.out, K2.out, by simp⟩
set_option maxRecDepth 100000 in
set_option maxHeartbeats 400000 in
theorem now_any (h : Bo D B b L now w) : Calls Try.prog 36 #[.pointer (some ⟨b, 0, none⟩)] w fun e w' => e = .returned (.int .i64 (now : Nat)) ∧ w' = w := by
  obtain ⟨ao, cap, hm, hd⟩ := h
  have c1 := hm.c1
  clear hm hd
  go_enter Try.func36, Try.ntmps36
  go_wp2
  go_ret
  exact ⟨rfl, rfl⟩
/-- is a task on the board? -/
def hs (L : List Tk) (k : Int) : Bool := decide (0 ≤ k ∧ k < (L.length : Int))
set_option maxRecDepth 100000 in
set_option maxHeartbeats 400000 in
theorem has_any (k : Int) (h : Bo D B b L now w) : Calls Try.prog 56 #[.pointer (some ⟨b, 0, none⟩), .int .i64 k] w fun e w' => e = .returned (.bool (hs L k)) ∧ w' = w := by
  obtain ⟨ao, cap, hm, hd⟩ := h
  have c0 := hm.c0
  clear hm hd
  unfold hs
  by_cases h0 : 0 ≤ k
  · by_cases h1 : k < (L.length : Int)
    · rw [decide_eq_true ⟨h0, h1⟩]
      go_enter Try.func56, Try.ntmps56
      go_wp2
      go_ret
      exact ⟨rfl, rfl⟩
    · rw [decide_eq_false (fun q => h1 q.2)]
      go_enter Try.func56, Try.ntmps56
      go_wp2
      go_ret
      exact ⟨rfl, rfl⟩
  · rw [decide_eq_false (fun q => h0 q.1)]
    go_enter Try.func56, Try.ntmps56
    go_wp2
    go_ret
    exact ⟨rfl, rfl⟩
theorem tk_len (L : List Tk) : (L.flatMap tk).length = L.length * 2 := by
  induction L with
  | nil => rfl
  | cons a r ih => simp only [List.flatMap_cons, List.length_append, List.length_cons] at ih ⊢; rw [ih]; simp [tk]; omega
theorem tk_at : ∀ (L : List Tk) (k : Nat) (x : Tk), L[k]? = some x → (L.flatMap tk)[k * 2]? = some (ifv x) ∧ (L.flatMap tk)[k * 2 + 1]? = some (.int .i64 x.2) := by
  intro L
  induction L with
  | nil => intro k x h; simp at h
  | cons a r ih =>
    intro k x h
    cases k with
    | zero => simp at h; subst h; simp [tk]
    | succ k =>
      simp at h
      obtain ⟨h1, h2⟩ := ih k x h
      refine ⟨?_, ?_⟩
      · rw [show (k + 1) * 2 = k * 2 + 2 by omega]; simpa [tk] using h1
      · rw [show (k + 1) * 2 + 1 = k * 2 + 1 + 2 by omega]; simpa [tk] using h2
theorem tk_set : ∀ (L : List Tk) (k : Nat) (x : Tk) (e : Int), L[k]? = some x → (L.flatMap tk).set (k * 2 + 1) (.int .i64 e) = (L.set k (x.1, e)).flatMap tk := by
  intro L
  induction L with
  | nil => intro k x e h; simp at h
  | cons a r ih =>
    intro k x e h
    cases k with
    | zero => simp at h; subst h; simp [tk, ifv]
    | succ k =>
      simp at h
      rw [show (k + 1) * 2 + 1 = k * 2 + 1 + 2 by omega]
      simpa [tk] using ih k x e h
/-- where the tasks lie -/
theorem Bd.cells (h : Bd B b ao cap L now w) {k : Nat} {x : Tk} (hk : L[k]? = some x) : ∃ g, ao = some ⟨g, 0, none⟩ ∧ w.cell? ⟨g, k * 2, none⟩ = some (ifv x) ∧ w.cell? ⟨g, k * 2 + 1, none⟩ = some (.int .i64 x.2) ∧ (∀ j, w.frozen? ⟨g, j, none⟩ = false) ∧ g ≠ b ∧ g < w.heap.size := by
  have hlt := (List.getElem?_eq_some_iff.1 hk).1
  have hrow := h.row
  rcases h.row.2 with ⟨hv, h0⟩ | ⟨g, cap', cur, hv, hb, hg, rest⟩
  · omega
  · simp only [Value.slice.injEq] at hv
    obtain ⟨rfl, _, _⟩ := hv
    obtain ⟨h1, h2⟩ := tk_at L k x hk
    have e : ∀ j, (⟨g, 0, none⟩ : Addr).add j = ⟨g, j, none⟩ := fun j => by unfold Addr.add; split <;> simp_all
    refine ⟨g, rfl, ?_, ?_, fun j => Lib.frozen_of_heap hg j, cells_ne hg h.hb (by decide), lt_of_heap hg⟩
    · rw [← e]; exact row_cell hrow _ _ h1
    · rw [← e]; exact row_cell hrow _ _ h2
/-- the moment of the end -/
def en (L : List Tk) (k : Int) : Int := if hs L k then ((L[k.toNat]?).map (fun x => x.2)).getD (-1) else -1
set_option maxRecDepth 100000 in
set_option maxHeartbeats 800000 in
theorem ended_any (k : Int) (h : Bo D B b L now w) : Calls Try.prog 35 #[.pointer (some ⟨b, 0, none⟩), .int .i64 k] w fun e w' => e = .returned (.int .i64 (en L k)) ∧ w' = w := by
  have HH := hide' (has_any k h)
  obtain ⟨ao, cap, hm, hd⟩ := h
  unfold en
  cases hh : hs L k with
  | false =>
    rw [hh] at HH
    rw [if_neg (by decide)]
    clear hm hd
    go_enter Try.func35, Try.ntmps35
    go_wp2_with fail
    refine HH.out.mono ?_
    rintro e w2 ⟨rfl, rfl⟩
    go_wp2
    go_ret
    exact ⟨rfl, rfl⟩
  | true =>
    rw [hh] at HH
    rw [if_pos rfl]
    obtain ⟨h0, h1⟩ := of_decide_eq_true hh
    obtain ⟨i, rfl⟩ : ∃ i : Nat, k = (i : Int) := ⟨k.toNat, by omega⟩
    have hi : i < L.length := by omega
    rw [Int.toNat_natCast, List.getElem?_eq_getElem hi]
    obtain ⟨g, rfl, q1, q2, q3, q4, q5⟩ := hm.cells (List.getElem?_eq_getElem hi)
    have c0 := hm.c0
    simp only [Option.map_some, Option.getD_some]
    generalize (L[i]).2 = E at *
    clear hm hd q1 q3 q4 q5 hh h0
    generalize L.length = n at *
    go_enter Try.func35, Try.ntmps35
    go_wp2_with fail
    refine HH.out.mono ?_
    rintro e w2 ⟨rfl, rfl⟩
    go_wp2
    go_ret
    exact ⟨rfl, rfl⟩
theorem join_core {x : Tk} {gg cap' : Nat} {w1 : World} (h : Bd B b ao cap L now w) (r1 : w1.ownsRow B 91 2 (.slice (some ⟨gg, 0, none⟩) (L.length + 1) cap') (L.length + 1) (L.flatMap tk ++ tk x)) (t1 : Turn (At ao) w w1) (hg1 : At ao gg ∨ w.heap.size ≤ gg) :
    Bd B b (some ⟨gg, 0, none⟩) cap' (L ++ [x]) now (w1.setCell ⟨b, 0, none⟩ (.slice (some ⟨gg, 0, none⟩) (L.length + 1) cap')) ∧ Turn (Own b ao) w (w1.setCell ⟨b, 0, none⟩ (.slice (some ⟨gg, 0, none⟩) (L.length + 1) cap')) := by
  have hne : gg ≠ b := by
    rcases hg1 with q | q
    · exact (h.at q).1
    · have := h.lt; omega
  have hx1 := (t1.block b h.lt (fun q => (h.at q).1 rfl)).trans h.hb
  have t2 : Turn (fun k => k = b) w1 (w1.setCell ⟨b, 0, none⟩ (.slice (some ⟨gg, 0, none⟩) (L.length + 1) cap')) := (Turn.refl (fun k => k = b) w1).setCell (p := ⟨b, 0, none⟩) (fun _ => rfl) _
  refine ⟨⟨?_, ?_, h.lo⟩, ?_⟩
  · rw [List.length_append]; exact set_block hx1
  · rw [List.length_append, List.flatMap_append]
    have := t2.row r1 (fun j hj e => by
      have : gg = j := by simpa [Value.ownBlock] using hj
      omega)
    simpa using this
  · exact (t1.mono (S' := Own b ao) (fun k _ q => .inr q)).trans (t2.mono (fun k _ e => .inl e))
theorem Turn.own {S : Nat → Prop} {D : Nat → Prop} (hd : ∀ j, D j ↔ S j) {w w' : World} (t : Turn S w w') : Turn D w w' := t.mono (fun k _ q => (hd k).2 q)
set_option maxRecDepth 100000 in
set_option maxHeartbeats 4000000 in
theorem join_many (t : Nat) (v : Value) (h : Bo D B b L now w) (hl : L.length = 64) :
    Calls Try.prog 33 #[.pointer (some ⟨b, 0, none⟩), .iface t v] w fun e w' => e = .returned (.tuple #[.int .i64 0, .int .i64 4]) ∧ w' = w := by
  obtain ⟨ao, cap, hm, hd⟩ := h
  have c0 := hm.c0
  rw [hl] at c0
  clear hm hd hl
  go_enter Try.func33, Try.ntmps33
  go_wp2
  go_ret2
  exact ⟨rfl, rfl⟩
set_option maxRecDepth 100000 in
set_option maxHeartbeats 4000000 in
theorem join_ok (t : Nat) (v : Value) (h : Bo D B b L now w) (hB : B ≤ w.heap.size) (hl : L.length < 64) :
    Calls Try.prog 33 #[.pointer (some ⟨b, 0, none⟩), .iface t v] w fun e w' => e = .returned (.tuple #[.int .i64 (L.length : Nat), .int .i64 0]) ∧ BTo D B b (L ++ [((t, v), -1)]) now w w' := by
  obtain ⟨ao, cap, hm, hd⟩ := h
  have c0 := hm.c0
  have hl2 : ¬ (L.length : Int) = 64 := by omega
  have n1 : Hid (L.length < 17592186044000) := (show L.length < 17592186044000 by omega)
  have HN := hide' hl
  have HM := hide' hm
  have HD := hide' hd
  have HB := hide' hB
  have HW : Hid (wrap64 (L.length : Int) = (L.length : Int)) := hide' (wrap_in (by omega) (by omega))
  have HB2 := hide' (show B ≤ w.heap.size + 1 by omega)
  have HR := hide' (World.ownsRow.alloc hm.row (.cells #[.iface t v, .int .i64 (-1)] 91))
  clear hm hd hl hB
  go_enter Try.func33, Try.ntmps33
  go_wp2_with (at_builtin; refine wpList_more (e := 91) (m := 2) Try.underlying73 info91 rfl (by omega) w rfl _ _ rfl HM.out.row n1 (.inr ⟨by omega, Nat.lt_of_lt_of_le HN.out (by omega)⟩) HB.out [.iface t v, .int .i64 (-1)] rfl (by simp [Value.oneCell']) _ rfl rfl ?_; intro gg cap' w1 r1 t1 hg1; have K1 := hide' (join_core (x := ((t, v), -1)) HM.out r1 t1 hg1); have K2 := hide' hg1; have a0 : w1.cell? ⟨b, 0, none⟩ = some (.slice ao L.length cap) := (t1.cell (p := ⟨b, 0, none⟩) HM.out.lt (fun q => (HM.out.at q).1 rfl)).trans c0; have a1 : w1.frozen? ⟨b, 0, none⟩ = false := World.frozen?_of_block (w := w) (t1.block b HM.out.lt (fun q => (HM.out.at q).1 rfl)) |>.trans (HM.out.fx 0); have b0 := K1.out.1.c0; clear r1 t1 hg1)
  go_ret2
  refine ⟨by simp [HW.out], Own b (some ⟨gg, 0, none⟩), ⟨_, _, K1.out.1, fun j => Iff.rfl⟩, Turn.own HD.out K1.out.2, ?_⟩
  rintro j (rfl | ⟨a, ha, rfl⟩)
  · exact .inl ((HD.out _).2 (.inl rfl))
  · cases ha
    rcases K2.out with q | q
    · exact .inl ((HD.out _).2 (.inr q))
    · exact .inr q
/-- a task's end is set -/
theorem Bd.put {g i : Nat} {x : Tk} (h : Bd B b (some ⟨g, 0, none⟩) cap L now w) (hi : L[i]? = some x) (e : Int) : Bd B b (some ⟨g, 0, none⟩) cap (L.set i (x.1, e)) now (w.setCell ⟨g, i * 2 + 1, none⟩ (.int .i64 e)) ∧ Turn (Own b (some ⟨g, 0, none⟩)) w (w.setCell ⟨g, i * 2 + 1, none⟩ (.int .i64 e)) := by
  have hlt := (List.getElem?_eq_some_iff.1 hi).1
  have t1 : Turn (fun k => k = g) w (w.setCell ⟨g, i * 2 + 1, none⟩ (.int .i64 e)) := (Turn.refl (fun k => k = g) w).setCell (p := ⟨g, i * 2 + 1, none⟩) (fun _ => rfl) _
  have hne : g ≠ b := (h.at ⟨_, rfl, rfl⟩).1
  refine ⟨⟨?_, ?_, h.lo⟩, t1.mono (fun k _ q => .inr ⟨_, rfl, q⟩)⟩
  · rw [List.length_set]; exact (t1.block b h.lt (fun q => hne q.symm)).trans h.hb
  · have hl := h.row.1
    refine ⟨by rw [tk_len, List.length_set], ?_⟩
    rcases h.row.2 with ⟨hv, _⟩ | ⟨g', cap', cur, hv, hb, hg', h1, h2, h3, h4⟩
    · cases hv
    · simp only [Value.slice.injEq, Option.some.injEq] at hv
      obtain ⟨hv1, _, rfl⟩ := hv
      cases hv1
      refine .inr ⟨g, cap, cur.setIfInBounds (i * 2 + 1) (.int .i64 e), by rw [List.length_set], hb, set_block hg', by rw [List.length_set]; exact h1, h2, by simpa using h3, ?_⟩
      rw [Array.toList_setIfInBounds, List.take_set, List.length_set, h4, tk_set L i x e hi]
set_option maxRecDepth 100000 in
set_option maxHeartbeats 4000000 in
/-- no step: no such task, or it has ended -/
theorem step_none (k : Int) (h : Bo D B b L now w) (hk : en L k ≠ -1 ∨ hs L k = false) : Calls Try.prog 55 #[.pointer (some ⟨b, 0, none⟩), .int .i64 k] w fun e w' => e = .returned (.bool false) ∧ w' = w := by
  have HH := hide' (has_any k h)
  obtain ⟨ao, cap, hm, hd⟩ := h
  unfold en at hk
  cases hh : hs L k with
  | false =>
    rw [hh] at HH
    clear hm hd hk
    go_enter Try.func55, Try.ntmps55
    go_wp2_with fail
    refine HH.out.mono ?_
    rintro e w2 ⟨rfl, rfl⟩
    go_wp2
    go_ret
    exact ⟨rfl, rfl⟩
  | true =>
    rw [hh] at HH hk
    rw [if_pos rfl] at hk
    obtain ⟨h0, h1⟩ := of_decide_eq_true hh
    obtain ⟨i, rfl⟩ : ∃ i : Nat, k = (i : Int) := ⟨k.toNat, by omega⟩
    have hi : i < L.length := by omega
    rw [Int.toNat_natCast, List.getElem?_eq_getElem hi] at hk
    obtain ⟨g, rfl, q1, q2, q3, q4, q5⟩ := hm.cells (List.getElem?_eq_getElem hi)
    have c0 := hm.c0
    simp only [Option.map_some, Option.getD_some] at hk
    generalize (L[i]).2 = E at *
    clear hm hd q1 q3 q4 q5 hh h0
    generalize L.length = n at *
    have hE : E ≠ -1 := by
      rcases hk with q | q
      · exact q
      · cases q
    clear hk
    go_enter Try.func55, Try.ntmps55
    go_wp2_with fail
    refine HH.out.mono ?_
    rintro e w2 ⟨rfl, rfl⟩
    go_wp2
    go_ret
    exact ⟨rfl, rfl⟩
set_option maxRecDepth 100000 in
set_option maxHeartbeats 4000000 in
/-- a step, whatever the machine does with it -/
theorem step_some (c : Nat) (i : Nat) (h : Bo D B b L now w) (hi : L[i]? = some ((24, .pointer (some ⟨c, 0, none⟩)), -1)) {Q : Bool → World → Prop} {S : Nat → Prop} (hS : ∀ j, D j → ¬ S j)
    (hc : Calls Try.prog 17 #[.pointer (some ⟨c, 0, none⟩), .int .i64 (now : Nat)] w.drew fun e w' => ∃ r, e = .returned (.bool r) ∧ Turn S w w' ∧ Q r w') : Calls Try.prog 55 #[.pointer (some ⟨b, 0, none⟩), .int .i64 (i : Nat)] w fun e w' => e = .returned (.bool true) ∧ ∃ r w1, Q r w1 ∧ Turn S w w1 ∧ Bo D B b (if r then L.set i ((24, .pointer (some ⟨c, 0, none⟩)), (now : Int)) else L) now w' ∧ Turn D w1 w' := by
  have hm : ∀ w : World, (method 222 24 (.pointer (some ⟨c, 0, none⟩)) "Step").run Try.prog w = .ok (17, .pointer (some ⟨c, 0, none⟩)) w := fun _ => by kernel_rfl
  have HH := hide' (has_any (i : Int) h)
  have hlt : i < L.length := (List.getElem?_eq_some_iff.1 hi).1
  rw [show hs L (i : Int) = true from decide_eq_true (by omega)] at HH
  obtain ⟨ao, cap, hb, hd⟩ := h
  obtain ⟨g, rfl, q1, q2, q3, q4, q5⟩ := hb.cells hi
  have c0 := hb.c0
  have c1 := hb.c1
  have HC := hide' hc
  have hlt' : (i : Int) < (L.length : Int) := by omega
  have Hi := hide' hi
  have Hb := hide' hb
  have nb := hS b ((hd b).2 (.inl rfl))
  have ng := hS g ((hd g).2 (.inr ⟨_, rfl, rfl⟩))
  have bl := hb.lt
  have HK := hide' (fun w3 (t3 : Turn S w w3) => hb.kept t3 (fun j hj => hS j ((hd j).2 hj)))
  clear hc hb q3 q4 hi hS
  go_enter Try.func55, Try.ntmps55
  go_wp2_with fail
  refine HH.out.mono ?_
  rintro e w2 ⟨rfl, rfl⟩
  go_wp2_with fail
  replace q1 : w2.cell? ⟨g, i * 2, none⟩ = some (.iface 24 (.pointer (some ⟨c, 0, none⟩))) := q1
  have q1' : w2.drew.cell? ⟨g, i * 2, none⟩ = some (.iface 24 (.pointer (some ⟨c, 0, none⟩))) := q1
  go_region_held3 (fun w' => w'.cell? ⟨b, 0, none⟩ = some (.slice (some ⟨g, 0, none⟩) L.length cap) ∧ w'.cell? ⟨b, 1, none⟩ = some (.int .i64 (now : Nat)) ∧ w'.cell? ⟨g, i * 2, none⟩ = some (.iface 24 (.pointer (some ⟨c, 0, none⟩)))) (first | go_keep | exact ⟨c0, c1, q1⟩ | exact ⟨k0, k1, k2⟩) ((refine HC.out.mono ?_; rintro e w3 ⟨r, rfl, t3, hq3⟩; have k0 := (t3.cell (p := ⟨b, 0, none⟩) bl nb).trans c0; have k1 := (t3.cell (p := ⟨b, 1, none⟩) bl nb).trans c1; have k2 := (t3.cell (p := ⟨g, i * 2, none⟩) q5 ng).trans q1))
  rename_i hHeld
  clear hHeld
  have K := hide' (And.intro hq3 t3)
  have hb3 := HK.out w3 t3
  clear q1 q1' q2 c0 c1 HC HH bl nb ng q5 hq3 t3
  cases r with
  | false =>
    have H3 := hide' hb3
    clear hb3 k0 k1 k2
    go_wp2
    go_ret
    exact ⟨rfl, false, w3, K.out.1, K.out.2, ⟨_, _, H3.out, hd⟩, Turn.refl _ _⟩
  | true =>
    have H3 := hide' (hb3.put Hi.out (now : Int))
    obtain ⟨g', hg', _, j2, jf, _, _⟩ := hb3.cells Hi.out
    cases hg'
    have j2 : w3.cell? ⟨g, i * 2 + 1, none⟩ = some (.int .i64 (-1)) := j2
    have f2 := jf (i * 2 + 1)
    clear hb3 jf k2
    go_wp2_with fail
    go_region
    go_wp2
    go_ret
    exact ⟨rfl, true, w3, K.out.1, K.out.2, ⟨_, _, by first | exact H3.out.1 | exact H3.out.1.kept ((Turn.refl (fun _ => False) _).drew) (fun _ _ q => q), hd⟩, by first | exact Turn.own hd H3.out.2 | exact (Turn.own hd H3.out.2).drew⟩
theorem Bd.tick (h : Bd B b ao cap L now w) (v : Nat) : Bd B b ao cap L v (w.setCell ⟨b, 1, none⟩ (.int .i64 (v : Int))) ∧ Turn (Own b ao) w (w.setCell ⟨b, 1, none⟩ (.int .i64 (v : Int))) := by
  have t1 : Turn (fun k => k = b) w (w.setCell ⟨b, 1, none⟩ (.int .i64 (v : Int))) := (Turn.refl (fun k => k = b) w).setCell (p := ⟨b, 1, none⟩) (fun _ => rfl) _
  refine ⟨⟨set_block h.hb, t1.row h.row (fun j hj e => (h.at (own_at hj)).1 e), h.lo⟩, t1.mono (fun k _ q => .inl q)⟩
set_option maxRecDepth 100000 in
set_option maxHeartbeats 4000000 in
/-- a moment passes -/
theorem pick_of (k : Int) {Q : Bool → World → Prop} {L' : List Tk} (hn : now < 9000000000000000)
    (hc : Calls Try.prog 55 #[.pointer (some ⟨b, 0, none⟩), .int .i64 k] w fun e w' => ∃ r L', e = .returned (.bool r) ∧ Bo D B b L' now w' ∧ ∀ w2, Bo D B b L' (now + 1) w2 → Turn D w' w2 → Q r w2) : Calls Try.prog 34 #[.pointer (some ⟨b, 0, none⟩), .int .i64 k] w fun e w' => ∃ r, e = .returned (.bool r) ∧ Q r w' := by
  have HC := hide' hc
  have HW : Hid (wrap64 ((now : Int) + 1) = ((now + 1 : Nat) : Int)) := hide' (by rw [wrap_in (by omega) (by omega)]; omega)
  clear hc hn
  go_enter Try.func34, Try.ntmps34
  go_wp2_with fail
  refine HC.out.mono ?_
  rintro e w2 ⟨r, L', rfl, ⟨ao, cap, hm, hd⟩, hq⟩
  have c1 := hm.c1
  have f1 := hm.fx 1
  have K := hide' (hm.tick (now + 1))
  have Hq := hide' hq
  clear hm hq
  go_wp2
  go_ret
  rw [HW.out]
  exact ⟨r, rfl, Hq.out _ ⟨ao, cap, K.out.1, hd⟩ (Turn.own hd K.out.2)⟩
end C
end Go.Proofs.Ytjhnlmedmpcgoaa
