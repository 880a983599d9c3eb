import Derived.Test.YtnlopepbcnegbaaGreatDoorDfT
import Derived.Test.YtnlopepbcnegbaaGreatDoorDfX
set_option linter.unusedVariables false
set_option linter.unusedSimpArgs false
namespace Go.Proofs.YtnlopepbcnegbaaGreatDoor
open Go.RowKit
def toks (pre : List El) : List Tkn := (pre.filter El.isTok).map El.data
def El.flw : El → Option Flw
  | .tok _ _ _ _ => none
  | .flt _ code l c word => some (code, l, c, word)
def fltOf (pre : List El) : Option Flw := pre.getLast?.bind El.flw
def one? (o : Option Flw) : Nat := if o.isSome then 1 else 0
/-- what m things are of all -/
def took (r : List Tkn × Option Flw) (m : Nat) : List Tkn × Option Flw := if r.1.length + one? r.2 ≤ m then r else (r.1.take m, none)
theorem toks_all {pre : List El} (h : ∀ y ∈ pre, y.isTok = true) : toks pre = pre.map El.data := by
  unfold toks
  rw [List.filter_eq_self.2 h]
theorem toks_tok (pre : List El) (k : Int) (t : ByteArray) (l c : Int) : toks (pre ++ [.tok k t l c]) = toks pre ++ [(k, t, l, c)] := by
  unfold toks
  rw [List.filter_append, List.map_append]
  rfl
theorem toks_flt (pre : List El) (fb : Nat) (code l c : Int) (word : ByteArray) : toks (pre ++ [.flt fb code l c word]) = toks pre := by
  unfold toks
  rw [List.filter_append, List.map_append]
  show _ ++ [] = _
  rw [List.append_nil]
theorem fltOf_snoc (pre : List El) (x : El) : fltOf (pre ++ [x]) = x.flw := by simp [fltOf]
theorem fltOf_all {pre : List El} (h : ∀ y ∈ pre, y.isTok = true) : fltOf pre = none := by
  unfold fltOf
  cases hl : pre.getLast? with
  | none => rfl
  | some x =>
    have := h x (List.mem_of_getLast? hl)
    cases x with
    | tok k t l c => rfl
    | flt fb code l c word => cases this
/-- AN ITERATOR THAT TELLS r -/
structure Tellr (S Sp : List El → Prop) (r : List Tkn × Option Flw) : Prop where
  full : ∀ xs, S xs → toks xs = r.1 ∧ fltOf xs = r.2
  len : ∀ xs, S xs → xs.length = r.1.length + one? r.2
  part : ∀ pre, Sp pre → toks pre = (took r pre.length).1 ∧ fltOf pre = (took r pre.length).2
  ahead : ∀ pre x, Sp (pre ++ [x]) → (∀ y ∈ pre, y.isTok = true) ∧ ∀ fb code l c word, x = .flt fb code l c word → code ≠ 0
theorem walk_tok {T : Tx} {i j : Nat} {pre : List El} (h : Walk T i pre j) : ∀ y ∈ pre, y.isTok = true := by
  induction h with
  | nil => intro y hy; simp at hy
  | snoc h1 h2 h3 ih =>
    intro y hy
    rcases List.mem_append.1 hy with hy | hy
    · exact ih y hy
    · simp at hy; rw [hy]; rfl
theorem all_part {T : Tx} {xs : List El} (h : T.All xs) : T.Part xs := by
  obtain ⟨pre, j, x, h1, h2, h3⟩ := h
  exact ⟨pre, j, x, h1, h2, part_of_last h3⟩
theorem part_split {T : Tx} {pre : List El} {x : El} (h : T.Part (pre ++ [x])) : ∃ j, Walk T 0 pre j ∧ x.At T j := by
  obtain ⟨pre', j, x', he, hw, hl⟩ := h
  obtain ⟨rfl, hx⟩ := List.append_inj' he rfl
  have hx : x = x' := by simpa using hx
  subst hx
  exact ⟨j, hw, hl⟩
theorem tell_text {T : Tx} {s : ByteArray} (hs : T.s = s) (G : L.Good s T.C T.N 0 (1, 1)) (hz : s.size ≤ 65536) (ok : T.Ok) : Tellr T.All T.Part (T.run (T.N + 2) 0) := by
  have hahead : ∀ pre x, T.Part (pre ++ [x]) → (∀ y ∈ pre, y.isTok = true) ∧ ∀ fb code l c word, x = .flt fb code l c word → code ≠ 0 := by
    intro pre x h
    obtain ⟨j, hw, hl⟩ := part_split h
    refine ⟨walk_tok hw, ?_⟩
    rintro fb code l c word rfl
    exact tokR_code hs G hz ok (walk_len ok hw).2 hl
  have htok : ∀ pre k t l c, T.Part (pre ++ [.tok k t l c]) → ∃ more f, T.run (T.N + 2) 0 = (pre.map El.data ++ (k, t, l, c) :: more, f) ∧ (k = 5 → more = [] ∧ f = none) := by
    intro pre k t l c h
    obtain ⟨j, hw, j', hj⟩ := part_split h
    have hlen := walk_len ok hw
    have hr := walk_run hw (T.N + 2 - pre.length)
    rw [show pre.length + (T.N + 2 - pre.length) = T.N + 2 by omega, show T.N + 2 - pre.length = (T.N + 1 - pre.length) + 1 by omega] at hr
    by_cases h5 : k = 5
    · subst h5
      rw [run_end hj] at hr
      exact ⟨[], none, by rw [hr], fun _ => ⟨rfl, rfl⟩⟩
    · rw [run_tok hj h5] at hr
      exact ⟨_, _, by rw [hr], fun q => absurd q h5⟩
  have hdec : ∀ xs, T.Part xs → ∃ pre x, xs = pre ++ [x] := fun xs h => by obtain ⟨pre, j, x, h1, _⟩ := h; exact ⟨pre, x, h1⟩
  refine ⟨fun xs h => ?_, fun xs h => ?_, fun pre h => ?_, hahead⟩
  · obtain ⟨pre, j, x, rfl, hw, hl⟩ := h
    cases x with
    | tok k t l c =>
      obtain ⟨rfl, j', hj⟩ := hl
      obtain ⟨more, f, h1, h2⟩ := htok pre 5 t l c ⟨pre, j, _, rfl, hw, ⟨j', hj⟩⟩
      obtain ⟨rfl, rfl⟩ := h2 rfl
      rw [h1, toks_tok, toks_all (walk_tok hw), fltOf_snoc]
      exact ⟨rfl, rfl⟩
    | flt fb code l c word =>
      rw [part_run (fb := fb) (l := l) (c := c) (word := word) (code := code) (pre := pre) ok ⟨pre, j, _, rfl, hw, hl⟩, toks_flt, toks_all (walk_tok hw), fltOf_snoc]
      exact ⟨rfl, rfl⟩
  · obtain ⟨pre, j, x, rfl, hw, hl⟩ := h
    cases x with
    | tok k t l c =>
      obtain ⟨rfl, j', hj⟩ := hl
      obtain ⟨more, f, h1, h2⟩ := htok pre 5 t l c ⟨pre, j, _, rfl, hw, ⟨j', hj⟩⟩
      obtain ⟨rfl, rfl⟩ := h2 rfl
      rw [h1]
      simp [one?]
    | flt fb code l c word =>
      rw [part_run (fb := fb) (l := l) (c := c) (word := word) (code := code) (pre := pre) ok ⟨pre, j, _, rfl, hw, hl⟩]
      simp [one?]
  · obtain ⟨pre, x, rfl⟩ := hdec pre h
    obtain ⟨ht, _⟩ := hahead pre x h
    cases x with
    | tok k t l c =>
      obtain ⟨more, f, h1, h2⟩ := htok pre k t l c h
      rw [h1, toks_tok, toks_all ht, fltOf_snoc]
      unfold took
      simp only [List.length_append, List.length_map, List.length_cons, List.length_singleton]
      split
      · rename_i q
        have hm : more = [] := by
          cases more with
          | nil => rfl
          | cons a b => simp at q; omega
        subst hm
        have hf : f = none := by
          cases f with
          | none => rfl
          | some a => simp [one?] at q; omega
        subst hf
        exact ⟨rfl, rfl⟩
      · refine ⟨?_, rfl⟩
        simp only
        rw [List.take_append, List.length_map, show pre.length + (([] : List El).length + 1) - pre.length = 1 by simp, List.take_of_length_le (by simp)]
        rfl
    | flt fb code l c word =>
      rw [part_run ok h, toks_flt, toks_all ht, fltOf_snoc]
      unfold took
      simp [one?, El.flw]
end Go.Proofs.YtnlopepbcnegbaaGreatDoor
set_option linter.unusedVariables false
set_option linter.unusedSimpArgs false
namespace Go.Proofs.YtnlopepbcnegbaaGreatDoor
open Go.RowKit
def wcl (v : Value) (f : Option Flw) : List Value :=
  match f with
  | none => [v, .int .i64 0, .int .i64 0, .int .i64 0, .string ⟨#[]⟩, .bool false]
  | some f => [v, .int .i64 f.1, .int .i64 f.2.1, .int .i64 f.2.2.1, .string f.2.2.2, .bool false]
theorem wentV_eq (v : Value) (f : Option Flw) : wentV v f false = .agg (wcl v f).toArray := by cases f <;> rfl
/-- WHAT STANDS WHILE AN ITERATOR IS GONE OVER -/
structure GI (w0 : World) (bw b9 : Nat) (cn : List El → Int) (b : Nat) (pre : List El) (W : World) : Prop where
  cel : ∃ v, W.heap[bw]? = some (.cells (wcl v (fltOf pre)).toArray 39 (0, 0)) ∧ W.ownsRow (w0.heap.size + 2) 52 4 v (toks pre).length ((toks pre).flatMap cells4) ∧ ∀ g, v.ownBlock = some g → g ≠ b
  cnt : W.heap[b9]? = some (.cells #[.int .i64 (cn pre)] 3 (0, 0))
  tur : Turn (fun k => k = bw ∨ k = b9 ∨ w0.heap.size ≤ k) w0 W
  sz : w0.heap.size + 2 ≤ W.heap.size
  blt : b < W.heap.size
theorem GI.turn {w0 : World} {bw b9 : Nat} {cn : List El → Int} {b : Nat} {pre : List El} {W W' : World} (h : GI w0 bw b9 cn b pre W) (hb : w0.heap.size + 2 ≤ b) (hbw : bw < w0.heap.size) (h9 : b9 < w0.heap.size) (t : Turn (fun k => k = b ∨ k = w0.heap.size + 1) W W') : GI w0 bw b9 cn b pre W' := by
  have sz := h.sz
  obtain ⟨v, v1, v2, v3⟩ := h.cel
  refine ⟨⟨v, (t.block bw (by omega) (by omega)).trans v1, t.row v2 (fun g hg q => ?_), v3⟩, (t.block b9 (by omega) (by omega)).trans h.cnt, h.tur.then t (fun i hi q => by omega), Nat.le_trans sz t.size, Nat.lt_of_lt_of_le h.blt t.size⟩
  have h1 := v3 g hg
  have h2 := (v2.lt g hg).1
  omega
theorem GI.put {w0 : World} {bw b9 : Nat} {cn : List El → Int} {b : Nat} {pre pre' : List El} {W w3 W4 : World} (h : GI w0 bw b9 cn b pre W) (hb : w0.heap.size + 2 ≤ b) (hbw : bw < w0.heap.size) (h9 : b9 < w0.heap.size) (hne : bw ≠ b9)
    {v nv : Value} (hv : W.heap[bw]? = some (.cells (wcl v none).toArray 39 (0, 0))) (hvb : ∀ g, v.ownBlock = some g → g ≠ b ∧ w0.heap.size + 2 ≤ g) (t3 : Turn (fun k => v.ownBlock = some k) W w3)
    (hrow3 : w3.ownsRow (w0.heap.size + 2) 52 4 nv (toks pre').length ((toks pre').flatMap cells4)) (hown : ∀ q, nv.ownBlock = some q → v.ownBlock = some q ∨ W.heap.size ≤ q)
    {a0 a1 a2 a3 a4 a5 : Value} (ha : wcl nv (fltOf pre') = [a0, a1, a2, a3, a4, a5])
    (hW4 : (((((w3.setCell ⟨bw, 0, none⟩ a0).setCell ⟨bw, 1, none⟩ a1).setCell ⟨bw, 2, none⟩ a2).setCell ⟨bw, 3, none⟩ a3).setCell ⟨bw, 4, none⟩ a4).setCell ⟨bw, 5, none⟩ a5 = W4) :
    GI w0 bw b9 (fun _ => cn pre) b pre' W4 ∧ (∀ k, k < W.heap.size → k ≠ bw → v.ownBlock ≠ some k → W4.heap[k]? = W.heap[k]?) ∧ W.heap.size ≤ W4.heap.size := by
  have sz := h.sz
  have blt := h.blt
  have hbv : v.ownBlock ≠ some bw := fun e => by have := (hvb bw e).2; omega
  have h9v : v.ownBlock ≠ some b9 := fun e => by have := (hvb b9 e).2; omega
  have hv3 : w3.heap[bw]? = some (.cells (wcl v none).toArray 39 (0, 0)) := (t3.block bw (by omega) hbv).trans hv
  have s6 : W4.heap[bw]? = some (.cells (wcl nv (fltOf pre')).toArray 39 (0, 0)) := by
    rw [← hW4, ha]
    exact set6_heap w3 bw _ _ _ _ _ _ a0 a1 a2 a3 a4 a5 39 hv3
  have t6 : Turn (fun k => k = bw) w3 W4 := by
    rw [← hW4]
    exact ((((((Turn.refl (fun k => k = bw) w3).setCell (p := ⟨bw, 0, none⟩) (fun _ => rfl) _).setCell (p := ⟨bw, 1, none⟩) (fun _ => rfl) _).setCell (p := ⟨bw, 2, none⟩) (fun _ => rfl) _).setCell (p := ⟨bw, 3, none⟩) (fun _ => rfl) _).setCell (p := ⟨bw, 4, none⟩) (fun _ => rfl) _).setCell (p := ⟨bw, 5, none⟩) (fun _ => rfl) _
  have s36 : W.heap.size ≤ W4.heap.size := Nat.le_trans t3.size t6.size
  have hnb : ∀ q, nv.ownBlock = some q → q ≠ bw := fun q e => by
    rcases hown q e with q' | q'
    · have := (hvb q q').2; omega
    · omega
  refine ⟨⟨⟨nv, s6, t6.row hrow3 hnb, fun g e => ?_⟩, ?_, ?_, by omega, by omega⟩, fun k hk h1 h2 => (t6.block k (by have := t3.size; omega) h1).trans (t3.block k hk h2), s36⟩
  · rcases hown g e with q' | q'
    · exact (hvb g q').1
    · omega
  · exact ((t6.block b9 (by have := t3.size; omega) (fun e => hne e.symm)).trans (t3.block b9 (by omega) h9v)).trans h.cnt
  · exact (h.tur.then t3 (fun i hi q => by have := (hvb i q).2; omega)).then t6 (fun i hi q => .inl q)
theorem GI.count {w0 : World} {bw b9 : Nat} {cn cn' : List El → Int} {b : Nat} {pre : List El} {W : World} (h : GI w0 bw b9 cn b pre W) (hbw : bw < w0.heap.size) (h9 : b9 < w0.heap.size) (hne : bw ≠ b9) (u : Int) (hu : cn' pre = u) : GI w0 bw b9 cn' b pre (W.setCell ⟨b9, 0, none⟩ (.int .i64 u)) := by
  have t : Turn (fun k => k = b9) W (W.setCell ⟨b9, 0, none⟩ (.int .i64 u)) := (Turn.refl (fun k => k = b9) W).setCell (p := ⟨b9, 0, none⟩) (fun _ => rfl) _
  have sz := h.sz
  obtain ⟨v, v1, v2, v3⟩ := h.cel
  refine ⟨⟨v, (t.block bw (by omega) hne).trans v1, t.row v2 (fun g hg q => by have := (v2.lt g hg).1; omega), v3⟩, ?_, h.tur.then t (fun i hi q => .inr (.inl q)), Nat.le_trans sz t.size, Nat.lt_of_lt_of_le h.blt t.size⟩
  rw [hu]
  simpa using heap_setCell_same W b9 0 _ 3 (.int .i64 u) h.cnt
theorem GI.counted {w0 : World} {bw b9 : Nat} {cn cn' : List El → Int} {b : Nat} {pre : List El} {W W4 : World} {v : Value} (P : GI w0 bw b9 cn b pre W4 ∧ (∀ k, k < W.heap.size → k ≠ bw → v.ownBlock ≠ some k → W4.heap[k]? = W.heap[k]?) ∧ W.heap.size ≤ W4.heap.size) (hbw : bw < w0.heap.size) (h9 : b9 < w0.heap.size) (hne : bw ≠ b9) (u : Int) (hu : cn' pre = u) :
    GI w0 bw b9 cn' b pre (W4.setCell ⟨b9, 0, none⟩ (.int .i64 u)) ∧ (∀ k, k < W.heap.size → k ≠ bw → k ≠ b9 → v.ownBlock ≠ some k → (W4.setCell ⟨b9, 0, none⟩ (.int .i64 u)).heap[k]? = W.heap[k]?) ∧ W.heap.size ≤ (W4.setCell ⟨b9, 0, none⟩ (.int .i64 u)).heap.size := by
  obtain ⟨P1, P2, P3⟩ := P
  exact ⟨P1.count hbw h9 hne u hu, fun k h1 h2 h3 h4 => (Below.heap_setCell _ _ _ _ h3).trans (P2 k h1 h2 h4), by simpa using P3⟩
theorem GI.start {w0 : World} {bw b9 : Nat} {cn : List El → Int} {b : Nat} {W : World} (hbw : w0.heap[bw]? = some (.cells #[.slice none 0 0, .int .i64 0, .int .i64 0, .int .i64 0, .string ⟨#[]⟩, .bool false] 39 (0, 0))) (h9 : w0.heap[b9]? = some (.cells #[.int .i64 (cn [])] 3 (0, 0))) (hb : w0.heap.size + 2 ≤ b) (hbl : b < W.heap.size) (hW : Below w0.heap.size w0 W) : GI w0 bw b9 cn b [] W := by
  have l1 := (Array.getElem?_eq_some_iff.1 hbw).1
  have l2 := (Array.getElem?_eq_some_iff.1 h9).1
  exact ⟨⟨.slice none 0 0, (hW.block bw l1).trans hbw, World.ownsRow_nil _ _ _ _, fun g hg => by simp [Value.ownBlock] at hg⟩, (hW.block b9 l2).trans h9, turn_below hW, by omega, hbl⟩
/-- how it is stopped -/
structure GX (w0 : World) (bw b9 m : Nat) (c : Code) (pre : List El) (W : World) : Prop where
  c : c = .exit 0
  len : pre.length = m
  cel : ∃ v, W.heap[bw]? = some (.cells (wcl v (fltOf pre)).toArray 39 (0, 0)) ∧ W.ownsRow (w0.heap.size + 2) 52 4 v (toks pre).length ((toks pre).flatMap cells4)
  tur : Turn (fun k => k = bw ∨ k = b9 ∨ w0.heap.size ≤ k) w0 W
theorem GX.turn {w0 : World} {bw b9 m : Nat} {c : Code} {pre : List El} {W W' : World} (h : GX w0 bw b9 m c pre W) (hbw : bw < w0.heap.size) (t : Turn (fun k => k = w0.heap.size + 1) W W') : GX w0 bw b9 m c pre W' := by
  obtain ⟨v, v1, v2⟩ := h.cel
  have l1 := (Array.getElem?_eq_some_iff.1 v1).1
  exact ⟨h.c, h.len, ⟨v, (t.block bw l1 (by omega)).trans v1, t.row v2 (fun g hg q => by have := (v2.lt g hg).1; omega)⟩, h.tur.then t (fun i hi q => by omega)⟩
theorem GI.stop {w0 : World} {bw b9 : Nat} {cn : List El → Int} {b : Nat} {pre : List El} {W : World} (h : GI w0 bw b9 cn b pre W) {m : Nat} (hm : pre.length = m) : GX w0 bw b9 m (.exit 0) pre W := by
  obtain ⟨v, v1, v2, _⟩ := h.cel
  exact ⟨rfl, hm, ⟨v, v1, v2⟩, h.tur⟩
/-- a round has begun -/
structure GA (w0 : World) (bw b9 : Nat) (cn : List El → Int) (tm : El → Nat → Act) (b : Nat) (pre : List El) (x : El) (N0 : Nat) (a : Act) (W : World) : Prop where
  gi : GI w0 bw b9 cn b pre W
  tok : ∀ y ∈ pre, y.isTok = true
  cod : ∀ fb code l c word, x = .flt fb code l c word → code ≠ 0 ∧ Flt fb code l c word W ∧ fb ≠ w0.heap.size + 1
  row : ∀ v, W.heap[bw]? = some (.cells (wcl v none).toArray 39 (0, 0)) → ∀ g, v.ownBlock = some g → g < N0
  few : pre.length ≤ 65536
  n0 : N0 < W.heap.size ∧ w0.heap.size + 2 ≤ N0
  act : ∃ bx, a = tm x bx ∧ w0.heap.size + 2 ≤ bx ∧ W.heap[bx]? = some (.cells x.cells.toArray 52 (0, 0))
theorem GA.turn {w0 : World} {bw b9 : Nat} {cn : List El → Int} {tm : El → Nat → Act} {b : Nat} {pre : List El} {x : El} {N0 : Nat} {a : Act} {W W' : World} (h : GA w0 bw b9 cn tm b pre x N0 a W) (hb : w0.heap.size + 2 ≤ b) (hbw : bw < w0.heap.size) (h9 : b9 < w0.heap.size) (t : Turn (fun k => k = w0.heap.size + 1) W W') : GA w0 bw b9 cn tm b pre x N0 a W' := by
  have sz := h.gi.sz
  obtain ⟨bx, h1, h2, h3⟩ := h.act
  have hc : W'.heap[bw]? = W.heap[bw]? := t.block bw (by omega) (by omega)
  refine ⟨h.gi.turn hb hbw h9 (t.mono fun k _ q => Or.inr q), h.tok, fun fb code l c word e => ?_, fun v e => h.row v (hc ▸ e), h.few, ⟨Nat.lt_of_lt_of_le h.n0.1 t.size, h.n0.2⟩, ⟨bx, h1, h2, (t.block bx (Array.getElem?_eq_some_iff.1 h3).1 (by omega)).trans h3⟩⟩
  obtain ⟨c1, c2, c3⟩ := h.cod fb code l c word e
  exact ⟨c1, (t.block fb (Array.getElem?_eq_some_iff.1 c2).1 c3).trans c2, c3⟩
theorem row_form {w : World} {B : Nat} {e : TypeId} {size : Nat} {v : Value} {n : Nat} {xs : List Value} (h : w.ownsRow B e size v n xs) : ∃ sa sc, v = .slice sa n sc := by
  rcases h.2 with ⟨rfl, rfl⟩ | ⟨g, cp, cur, rfl, _⟩
  · exact ⟨_, _, rfl⟩
  · exact ⟨_, _, rfl⟩
theorem five_new (w : World) (x y z u v : Obj) :
    (((((w.alloc x).alloc y).alloc z).alloc u).alloc v).heap[w.heap.size]? = some x ∧ (((((w.alloc x).alloc y).alloc z).alloc u).alloc v).heap[w.heap.size + 1]? = some y ∧ (((((w.alloc x).alloc y).alloc z).alloc u).alloc v).heap[w.heap.size + 1 + 1]? = some z ∧ (((((w.alloc x).alloc y).alloc z).alloc u).alloc v).heap[w.heap.size + 1 + 1 + 1]? = some u ∧ (((((w.alloc x).alloc y).alloc z).alloc u).alloc v).heap[w.heap.size + 1 + 1 + 1 + 1]? = some v ∧ (((((w.alloc x).alloc y).alloc z).alloc u).alloc v).heap.size = w.heap.size + 5 := by
  obtain ⟨_, h0, h1, h2, h3, _⟩ := three_new w x y z
  have h4 := heap_alloc_new (((w.alloc x).alloc y).alloc z) u
  have h5 := heap_alloc_new ((((w.alloc x).alloc y).alloc z).alloc u) v
  have e4 : (((w.alloc x).alloc y).alloc z).heap.size = w.heap.size + 1 + 1 + 1 := by simp
  have e5 : ((((w.alloc x).alloc y).alloc z).alloc u).heap.size = w.heap.size + 1 + 1 + 1 + 1 := by simp
  have up : ∀ k o, k < w.heap.size + 1 + 1 + 1 → (((w.alloc x).alloc y).alloc z).heap[k]? = some o → (((((w.alloc x).alloc y).alloc z).alloc u).alloc v).heap[k]? = some o := fun k o hk h => (Below.heap_alloc _ _ _ (by omega)).trans ((Below.heap_alloc _ _ _ (by omega)).trans h)
  rw [e4] at h4
  rw [e5] at h5
  exact ⟨up _ _ (by omega) h0, up _ _ (by omega) h1, up _ _ (by omega) h2, (Below.heap_alloc _ _ _ (by omega)).trans h4, h5, by simp⟩
theorem one6 (W : World) (g : Nat) (a b c d e f p q r s u v : Value) (t : TypeId) (h : W.heap[g]? = some (.cells #[a, b, c, d, e, f] t (0, 0))) :
    ∃ W2, (((((W.setCell ⟨g, 0, none⟩ p).setCell ⟨g, 1, none⟩ q).setCell ⟨g, 2, none⟩ r).setCell ⟨g, 3, none⟩ s).setCell ⟨g, 4, none⟩ u).setCell ⟨g, 5, none⟩ v = W2 ∧ W2.heap[g]? = some (.cells #[p, q, r, s, u, v] t (0, 0)) ∧ (∀ k, g ≠ k → W2.heap[k]? = W.heap[k]?) ∧ Turn (fun k => k = g) W W2 := by
  refine ⟨_, rfl, set6_heap W g a b c d e f p q r s u v t h, fun k hk => ?_, ?_⟩
  · rw [Below.heap_setCell _ _ _ _ (fun e => hk e.symm), Below.heap_setCell _ _ _ _ (fun e => hk e.symm), Below.heap_setCell _ _ _ _ (fun e => hk e.symm), Below.heap_setCell _ _ _ _ (fun e => hk e.symm), Below.heap_setCell _ _ _ _ (fun e => hk e.symm), Below.heap_setCell _ _ _ _ (fun e => hk e.symm)]
  · exact ((((((Turn.refl (fun k => k = g) W).setCell (p := ⟨g, 0, none⟩) (fun _ => rfl) _).setCell (p := ⟨g, 1, none⟩) (fun _ => rfl) _).setCell (p := ⟨g, 2, none⟩) (fun _ => rfl) _).setCell (p := ⟨g, 3, none⟩) (fun _ => rfl) _).setCell (p := ⟨g, 4, none⟩) (fun _ => rfl) _).setCell (p := ⟨g, 5, none⟩) (fun _ => rfl) _
theorem set66 (W : World) (g g' : Nat) (hne : g ≠ g') (a b c d e f a' b' c' d' e' f' p q r s u v p' q' r' s' u' v' : Value) (t t' : TypeId) (h : W.heap[g]? = some (.cells #[a, b, c, d, e, f] t (0, 0))) (h' : W.heap[g']? = some (.cells #[a', b', c', d', e', f'] t' (0, 0))) :
    ∃ Wf, Wf = ((((((((((((W.setCell ⟨g, 0, none⟩ p).setCell ⟨g, 1, none⟩ q).setCell ⟨g, 2, none⟩ r).setCell ⟨g, 3, none⟩ s).setCell ⟨g, 4, none⟩ u).setCell ⟨g, 5, none⟩ v).setCell ⟨g', 0, none⟩ p').setCell ⟨g', 1, none⟩ q').setCell ⟨g', 2, none⟩ r').setCell ⟨g', 3, none⟩ s').setCell ⟨g', 4, none⟩ u').setCell ⟨g', 5, none⟩ v').drew ∧
      Wf.heap[g]? = some (.cells #[p, q, r, s, u, v] t (0, 0)) ∧ Wf.heap[g']? = some (.cells #[p', q', r', s', u', v'] t' (0, 0)) ∧ Turn (fun k => k = g ∨ k = g') W Wf := by
  obtain ⟨W2, e2, h2, k2, t2⟩ := one6 W g a b c d e f p q r s u v t h
  obtain ⟨W3, e3, h3, k3, t3⟩ := one6 W2 g' a' b' c' d' e' f' p' q' r' s' u' v' t' ((k2 g' hne).trans h')
  refine ⟨W3.drew, by rw [e2, e3], ?_, h3, ?_⟩
  · exact (k3 g hne.symm).trans h2
  · exact ((t2.mono fun k _ q => .inl q).then t3 (fun i _ q => .inr q)).drew
theorem row_dead {W Wz : World} {B B' e size n : Nat} {v : Value} {xs : List Value} (h : W.ownsRow B' e size v n xs) (t : Turn (fun k => B ≤ k ∧ ∃ o, W.heap[k]? = some (.deferred o)) W Wz) : Wz.ownsRow B' e size v n xs := by
  refine t.row h fun g hg q => ?_
  obtain ⟨_, o, ho⟩ := q
  rcases h.2 with ⟨e1, _⟩ | ⟨g', cap, cur, e1, _, e3, _⟩
  · rw [e1] at hg; simp [Value.ownBlock] at hg
  · rw [e1] at hg
    simp [Value.ownBlock] at hg
    subst hg
    rw [e3] at ho; cases ho
theorem wcl_form (v : Value) (f : Option Flw) : ∃ (c l k : Int) (word : ByteArray), wcl v f = [v, .int .i64 c, .int .i64 l, .int .i64 k, .string word, .bool false] := by
  cases f with
  | none => exact ⟨0, 0, 0, ⟨#[]⟩, rfl⟩
  | some f => exact ⟨_, _, _, _, rfl⟩
theorem resultsWW {fn : Func} {p q : Tmp} (h : fn.results = #[.cell p 39, .cell q 39]) (tmps : Array Value) (w : World) (g g' : Nat) (a b c d e f a' b' c' d' e' f' : Value) (t t' : TypeId) (hp : tmps.getD p undef = .pointer (some ⟨g, 0, none⟩)) (hb : w.heap[g]? = some (.cells #[a, b, c, d, e, f] t (0, 0)))
    (hq : tmps.getD q undef = .pointer (some ⟨g', 0, none⟩)) (hb' : w.heap[g']? = some (.cells #[a', b', c', d', e', f'] t' (0, 0))) :
    (results fn tmps).run Tryz.prog w = .ok (.tuple #[.agg #[a, b, c, d, e, f], .agg #[a', b', c', d', e', f']]) w := by
  have hp' : tmps[p]?.getD undef = .pointer (some ⟨g, 0, none⟩) := by simpa using hp
  have hq' : tmps[q]?.getD undef = .pointer (some ⟨g', 0, none⟩) := by simpa using hq
  simp [results, h, hp', hq', asAddr, Result.andThen, loadW w g a b c d e f t hb, loadW w g' a' b' c' d' e' f' t' hb']
end Go.Proofs.YtnlopepbcnegbaaGreatDoor
