import Derived.Test.YtfgblchnnhdlnaaGreatDoorGrTo
import Derived.Test.YtfgblchnnhdlnaaGreatDoorGrK
set_option linter.unusedVariables false
set_option linter.unusedSimpArgs false
namespace Go.Proofs.YtfgblchnnhdlnaaGreatDoor
open Go.RowKit
namespace TkI0
theorem add_off (b off n : Nat) : (⟨b, off, none⟩ : Addr).add n = ⟨b, off + n, none⟩ := by
  unfold Addr.add
  split <;> simp_all
end TkI0
namespace R
namespace Lay
theorem ends_snoc : ∀ (qs : List (List Tok × Dc)) (i : Nat) (T : List Tok) (d : Dc), ends i (qs ++ [(T, d)]) = ends i qs ++ [(d, i + (qs.flatMap Prod.fst).length + T.length)] := by
  intro qs
  induction qs with
  | nil => intro i T d; simp [ends]
  | cons q r ih =>
    intro i T d
    simp only [List.cons_append, ends, ih, List.flatMap_cons, List.length_append]
    congr 4
    omega
theorem ends_len : ∀ (qs : List (List Tok × Dc)) (i : Nat), (ends i qs).length = qs.length := by
  intro qs
  induction qs with
  | nil => intro i; rfl
  | cons q r ih => intro i; simp [ends, ih]
/-- what stands whole up to a cut, counted from a list that rises -/
theorem filter_take {α : Type} : ∀ (ps : List (α × Nat)) (k n : Nat), (∀ j p, ps[j]? = some p → (p.2 ≤ k ↔ j < n)) → n ≤ ps.length → (ps.filter fun p => decide (p.2 ≤ k)) = ps.take n := by
  intro ps
  induction ps with
  | nil => intro k n h hn; simp
  | cons p r ih =>
    intro k n h hn
    have h0 := h 0 p rfl
    cases n with
    | zero =>
      have hp : ¬ p.2 ≤ k := fun q => by have := h0.1 q; omega
      have := ih k 0 (fun j x hx => by
        have := h (j + 1) x (by simpa using hx)
        constructor
        · intro q; have := this.1 q; omega
        · intro q; omega) (Nat.zero_le _)
      rw [List.filter_cons, if_neg (by simpa using hp), this]
      simp
    | succ n =>
      have hp : p.2 ≤ k := h0.2 (by omega)
      have := ih k n (fun j x hx => by
        have := h (j + 1) x (by simpa using hx)
        constructor
        · intro q; have := this.1 q; omega
        · intro q; exact this.2 (by omega)) (by simp at hn; omega)
      rw [List.filter_cons, if_pos (by simpa using hp), this]
      rfl
theorem chain_rise {I : Src} : ∀ (ps : List (Dc × Nat)) (i : Nat), Cut.Chain I i ps → ∀ (a b : Nat) (p q : Dc × Nat), a < b → ps[a]? = some p → ps[b]? = some q → p.2 < q.2 := by
  intro ps
  induction ps with
  | nil => intro i _ a b p q _ h; simp at h
  | cons x r ih =>
    intro i hc a b p q hab ha hb
    cases b with
    | zero => omega
    | succ b =>
      simp at hb
      cases a with
      | zero =>
        simp at ha
        subst ha
        exact Cut.chain_gt r x.2 hc.2 q (List.mem_of_getElem? hb)
      | succ a => exact ih x.2 hc.2 a b p q (by omega) (by simpa using ha) hb
/-- tokens by the grammar, cut off at k: whole, or refused at the end -/
theorem decls_cut (qs : List (List Tok × Dc)) (h : Lays qs) {k : Nat} (hk : k ≤ (qs.flatMap Prod.fst).length) (l : List Tok) (e : Tok) (he : e.1 = 5) (hs : src l = ⟨(qs.flatMap Prod.fst).take k, e⟩) (hl : k ≤ l.length) :
    ((k = 0 ∨ ∃ p ∈ ends 0 qs, p.2 = k) → decls l = .ok (((ends 0 qs).filter fun p => decide (p.2 ≤ k)).map Prod.fst) k) ∧ (¬ (k = 0 ∨ ∃ p ∈ ends 0 qs, p.2 = k) → decls l = .bad k 40 ∧ (src l).at k = e) := by
  have hen := ends_end qs 0
  rw [Nat.zero_add] at hen
  have hch := chain_laid qs h.reads
  obtain ⟨TS, hTS⟩ : ∃ TS, qs.flatMap Prod.fst = TS := ⟨_, rfl⟩
  rw [hTS] at hk hen hch hs
  have hat : Src.at ⟨TS.take k, e⟩ k = e := by
    unfold Src.at
    simp only
    rw [List.getD_eq_getElem?_getD, List.getElem?_eq_none (by rw [List.length_take]; omega)]
    rfl
  have A := ag_of hk (L := []) (e := e) (by
    rw [List.append_nil, hat]
    unfold Cut.Dead; rw [he]; decide)
  rw [List.append_nil] at A
  have hlen : (TS.take k).length = k := by rw [List.length_take]; omega
  have tc := Cut.text_cut A (ends 0 qs) 0 [] (l.length + 1) hch (Nat.zero_le _) (by rw [hen]; exact hk) (by rw [hlen]; omega)
  unfold decls
  rw [hs]
  refine ⟨fun q => ?_, fun q => ⟨?_, hat⟩⟩
  · have := tc.1 ⟨hlen.symm, q⟩
    rw [List.nil_append] at this
    exact this
  · exact tc.2 (fun x => q x.2)
end Lay
end R
/-- the first of a row -/
theorem row_prefix {w : World} {B e size n m cap : Nat} {sa : Option Addr} {xs : List Value} (h : w.ownsRow B e size (.slice sa n cap) n xs) (hm : m ≤ n) : w.ownsRow B e size (.slice sa m cap) m (xs.take (m * size)) := by
  have hms : m * size ≤ n * size := Nat.mul_le_mul_right _ hm
  obtain ⟨hl, h⟩ := h
  refine ⟨by rw [List.length_take, hl]; omega, ?_⟩
  rcases h with ⟨e1, e2⟩ | ⟨g, cap', cur, e1, h1, h2, h3, h4, h5, h6⟩
  · cases e1
    left
    obtain rfl : m = 0 := by omega
    exact ⟨rfl, rfl⟩
  · cases e1
    right
    refine ⟨g, cap, cur, rfl, h1, h2, by omega, h4, h5, ?_⟩
    rw [← h6, List.take_take]
    congr 1
    omega
theorem rows_apart {w : World} {B B' e e' s s' n n' : Nat} {v v' : Value} {xs xs' : List Value} (he : e ≠ e') (h : w.ownsRow B e s v n xs) (h' : w.ownsRow B' e' s' v' n' xs') : ∀ g, v.ownBlock = some g → v'.ownBlock ≠ some g := by
  intro g hg hg'
  rcases h.2 with ⟨rfl, _⟩ | ⟨a, cp, cur, rfl, _, ha, _⟩
  · cases hg
  · rcases h'.2 with ⟨rfl, _⟩ | ⟨a', cp', cur', rfl, _, ha', _⟩
    · cases hg'
    · have e1 : a = g := by simpa [Value.ownBlock] using hg
      have e2 : a' = g := by simpa [Value.ownBlock] using hg'
      subst e1
      subst e2
      rw [ha] at ha'
      cases ha'
      exact he rfl
theorem row_grown {w w' : World} {B B' e e' s s' n n' : Nat} {v v' : Value} {xs xs' : List Value} {o : Obj} (he : e ≠ e') (h : w.ownsRow B e s v n xs) (h' : w.ownsRow B' e' s' v' n' xs') (hg : (w.alloc o).grownBy w' v'.ownBlock) : w'.ownsRow B e s v n xs := by
  have t : Turn (fun k => v'.ownBlock = some k) w w' := ((Turn.refl _ w).alloc o).grown hg (fun k hk _ => hk)
  exact t.row h (fun g hg' q => rows_apart he h h' g hg' q)
theorem Dcs.grownE {w w' : World} {B B' n : Nat} {ps : List (R.Dc × Value)} {v u : Value} {xs : List Value} {o : Obj} (h : Dcs B ps v w) (r : w.ownsRow B' 3 1 u n xs) (hg : (w.alloc o).grownBy w' u.ownBlock) : Dcs B ps v w' :=
  ⟨row_grown (by decide) h.row r hg, fun p hp => row_grown (by decide) (h.names p hp) r hg, h.sep⟩
theorem cell_new1 (w : World) (x : Value) (t : TypeId) : ∀ j q, [x][j]? = some q → (w.alloc (.cells #[x] t)).cell? ((⟨w.heap.size, 0, none⟩ : Addr).add j) = some q := by
  intro j q hj
  exact World.news_of_block (heap_alloc_new w (.cells #[x] t)) j q (by simpa using hj)
/-- behind a declaration more in the list -/
theorem cut_step {w3 w4 : World} {B b k m : Nat} {ts : List R.Tok} {v vw ve : Value} {ln cl q : Int} {ps : List (R.Dc × Value)} {es : List Value} {o : Obj} (L : Ld B b ts v ln cl q w3) (D : Dcs B ps vw w3) (E : w3.ownsRow B 3 1 ve k es) (hg : (w3.alloc o).grownBy w4 vw.ownBlock) (hm : ts.length = m) :
    ∃ x y, w4.cell? ⟨b, 0, none⟩ = some (.slice x m y) ∧ Ld B b ts v ln cl q w4 ∧ w4.ownsRow B 3 1 ve k es := by
  obtain ⟨L4, _⟩ := L.grown D.row (by decide) (by decide) hg
  obtain ⟨x, y, e⟩ := row_form L4.row
  refine ⟨x, y, ?_, L4, row_grown (by decide) E D.row hg⟩
  have := L4.c0
  rw [e, hm] at this
  exact this
def eCells (qs : List (List R.Tok × R.Dc)) : List Value := (R.Lay.ends 0 qs).map fun p => .int .i64 (p.2 : Int)
theorem eCells_snoc (qs : List (List R.Tok × R.Dc)) (T : List R.Tok) (d : R.Dc) : eCells (qs ++ [(T, d)]) = eCells qs ++ [.int .i64 (((qs.flatMap Prod.fst ++ T).length : Nat) : Int)] := by
  unfold eCells
  rw [R.Lay.ends_snoc, List.map_append]
  simp
theorem row_cap {w : World} {B e size n cap : Nat} {sa : Option Addr} {xs : List Value} (h : w.ownsRow B e size (.slice sa n cap) n xs) : n ≤ cap := by
  rcases h.2 with ⟨e1, e2⟩ | ⟨g, cap', cur, e1, h1, h2, h3, h4, h5, h6⟩
  · omega
  · cases e1; exact h3
theorem flat13_take (ps : List (R.Dc × Value)) : ∀ n, (ps.flatMap fun p => dl p.1 p.2).take (n * 13) = (ps.take n).flatMap fun p => dl p.1 p.2 := by
  induction ps with
  | nil => intro n; simp
  | cons p r ih =>
    intro n
    cases n with
    | zero => simp
    | succ n =>
      rw [List.flatMap_cons, List.take_succ_cons, List.flatMap_cons, List.take_append, dl_len, show (n + 1) * 13 - 13 = n * 13 by omega, ih, List.take_of_length_le (by rw [dl_len]; omega)]
/-- the first declarations of a list -/
theorem Dcs.take {B : Nat} {ps : List (R.Dc × Value)} {sa : Option Addr} {m cap : Nat} {w : World} (h : Dcs B ps (.slice sa m cap) w) (hm : ps.length = m) {n : Nat} (hn : n ≤ m) : Dcs B (ps.take n) (.slice sa n cap) w := by
  subst hm
  have hl : (ps.take n).length = n := by rw [List.length_take]; omega
  refine ⟨?_, fun p hp => h.names p (List.mem_of_mem_take hp), h.sep.sublist (List.take_sublist _ _)⟩
  rw [hl, ← flat13_take]
  exact row_prefix h.row hn
theorem end_below {wr w2 w4 : World} {v2 : Value} {n : Nat} {xs : List Value} {o1 o2 : Obj} (b2 : Below wr.heap.size wr w2) (r2 : w2.ownsRow wr.heap.size 44 4 v2 n xs) (hg : ((w2.alloc o1).alloc o2).grownBy w4 v2.ownBlock) : Below wr.heap.size wr w4 ∧ w4.heap[w2.heap.size]? = some o1 := by
  have z := b2.size
  refine ⟨((b2.alloc z o1).alloc (by simp; omega) o2).grown hg (by simp; omega) (fun j hj => (r2.lt j hj).1), ?_⟩
  refine (hg.block w2.heap.size (by simp; omega) (fun e => ?_)).trans ((Below.heap_alloc _ _ _ (by simp)).trans (heap_alloc_new _ _))
  have := (r2.lt _ e.symm).2
  omega
theorem flat4_drop (l : List R.Tok) : ∀ k, (l.drop k).flatMap cellsT = (l.flatMap cellsT).drop (k * 4) := by
  induction l with
  | nil => intro k; simp
  | cons x l ih =>
    intro k
    cases k with
    | zero => simp
    | succ k =>
      have e : (cellsT x).drop ((k + 1) * 4) = [] := List.drop_of_length_le (by rw [cellsT_len]; omega)
      rw [List.drop_succ_cons, List.flatMap_cons, List.drop_append, cellsT_len, show (k + 1) * 4 - 4 = k * 4 by omega, ih, e, List.nil_append]
theorem drop_cells {TS : List R.Tok} {g7 k : Nat} {W : World} (t : Toks TS (some ⟨g7, 0, none⟩) (fun _ => False) W) : ∀ ad, some (⟨g7, k * 4, none⟩ : Addr) = some ad → ∀ j u, ((TS.drop k).flatMap cellsT)[j]? = some u → W.cell? (ad.add j) = some u := by
  intro ad e j u hj
  cases e
  rw [flat4_drop, List.getElem?_drop] at hj
  have := toks_cells t _ rfl _ _ hj
  rw [TkI0.add_off] at this ⊢
  rw [Nat.zero_add] at this
  exact this
theorem drop_len (TS : List R.Tok) (k : Nat) : ((TS.drop k).flatMap cellsT).length = (TS.length - k) * 4 := by rw [flat4_len, List.length_drop]
theorem src_end (TS : List R.Tok) (k : Nat) (h5 : ∀ x ∈ TS, x.1 ≠ 5) (el ec : Int) (more : List R.Tok) : R.src (TS.take k ++ (5, ⟨#[101, 110, 100]⟩, el, ec) :: more) = ⟨TS.take k, (5, ByteArray.empty, el, ec)⟩ := by
  rw [R.Lay.src_app _ _ (fun x hx => h5 x (List.mem_of_mem_take hx))]
  simp [R.src]
theorem end_pb {w4 w9 : World} {B pb n cp : Nat} {xs : List Value} {cs : Array Value} {sa : Option Addr} (r4 : w4.ownsRow B 44 4 (.slice sa n cp) n xs) (pb4 : w4.heap[pb]? = some (.cells cs 26)) (g9 : w4.grownBy w9 (Value.slice sa n cp).ownBlock) : w9.heap[pb]? = some (.cells cs 26) := by
  refine (g9.block pb (Array.getElem?_eq_some_iff.1 pb4).1 (fun e => ?_)).trans pb4
  rcases r4.2 with ⟨e1, _⟩ | ⟨a, cp', cur, e1, _, ha, _⟩
  · rw [e1] at e; cases e
  · rw [e1] at e
    have : pb = a := by simpa [Value.ownBlock] using e
    subst this
    rw [pb4] at ha
    cases ha
theorem end_world {wr w9 : World} {pb m c9 : Nat} {x9 : Option Addr} {xs : List Value} (b9 : Below wr.heap.size wr w9) (hp : wr.heap.size ≤ pb) (pb9 : w9.heap[pb]? = some (.cells #[.int .i64 40, .int .i64 0, .int .i64 0, .string ⟨#[]⟩] 26)) (r9 : w9.ownsRow wr.heap.size 44 4 (.slice x9 m c9) m xs) (el ec : Int) :
    Below wr.heap.size wr ((w9.setCell ⟨pb, 1, none⟩ (.int .i64 el)).setCell ⟨pb, 2, none⟩ (.int .i64 ec)) ∧ ((w9.setCell ⟨pb, 1, none⟩ (.int .i64 el)).setCell ⟨pb, 2, none⟩ (.int .i64 ec)).heap[pb]? = some (.cells #[.int .i64 40, .int .i64 el, .int .i64 ec, .string ⟨#[]⟩] 26) ∧
      ((w9.setCell ⟨pb, 1, none⟩ (.int .i64 el)).setCell ⟨pb, 2, none⟩ (.int .i64 ec)).ownsRow wr.heap.size 44 4 (.slice x9 m c9) m xs := by
  have t : Turn (fun k => k = pb) w9 ((w9.setCell ⟨pb, 1, none⟩ (.int .i64 el)).setCell ⟨pb, 2, none⟩ (.int .i64 ec)) := ((Turn.refl (fun k => k = pb) w9).setCell (p := ⟨pb, 1, none⟩) (fun _ => rfl) _).setCell (p := ⟨pb, 2, none⟩) (fun _ => rfl) _
  refine ⟨b9.trans (t.below (fun j hj => by omega) b9.size), ?_, t.row r9 (fun g hg e => ?_)⟩
  · have h1 : (w9.setCell ⟨pb, 1, none⟩ (.int .i64 el)).heap[pb]? = some (.cells #[.int .i64 40, .int .i64 el, .int .i64 0, .string ⟨#[]⟩] 26 (0, 0)) := by
      rw [setCell_eq_setRow w9 pb 1 _ 26 (0, 0) _ pb9]
      exact setRow_heap w9 pb _ _ 26 (0, 0) pb9
    rw [setCell_eq_setRow _ pb 2 _ 26 (0, 0) _ h1]
    exact setRow_heap _ pb _ _ 26 (0, 0) h1
  · subst e
    rcases r9.2 with ⟨e1, _⟩ | ⟨a, cp', cur, e1, _, ha, _⟩
    · rw [e1] at hg; cases hg
    · rw [e1] at hg
      have : a = g := by simpa [Value.ownBlock] using hg
      subst this
      rw [pb9] at ha
      cases ha
theorem count_le {E : List (R.Dc × Nat)} {k i : Nat} {p : R.Dc × Nat} (hrise : ∀ (a b : Nat) (p q : R.Dc × Nat), a < b → E[a]? = some p → E[b]? = some q → p.2 < q.2) (hp : E[i]? = some p) (h : p.2 ≤ k) : ∀ (j : Nat) (q : R.Dc × Nat), j < i + 1 → E[j]? = some q → (q.2 ≤ k ↔ j < i + 1) := by
  intro j q hj hq
  refine ⟨fun _ => hj, fun _ => ?_⟩
  by_cases e : j = i
  · subst e
    rw [hp] at hq
    cases hq
    exact h
  · have := hrise j i q p (by omega) hq hp
    omega
theorem count_gt {E : List (R.Dc × Nat)} {k i n : Nat} {p : R.Dc × Nat} (hc : ∀ (j : Nat) (q : R.Dc × Nat), j < i → E[j]? = some q → (q.2 ≤ k ↔ j < n)) (hn : n ≤ i) (hp : E[i]? = some p) (h : k < p.2) : ∀ (j : Nat) (q : R.Dc × Nat), j < i + 1 → E[j]? = some q → (q.2 ≤ k ↔ j < n) := by
  intro j q hj hq
  by_cases e : j = i
  · subst e
    rw [hp] at hq
    cases hq
    constructor <;> intro <;> omega
  · exact hc j q (by omega) hq
theorem whole_step {E : List (R.Dc × Nat)} {k i : Nat} {p : R.Dc × Nat} {b b' : Bool} (h : b = true ↔ (k = 0 ∨ ∃ (j : Nat) (q : R.Dc × Nat), j < i ∧ E[j]? = some q ∧ q.2 = k)) (hp : E[i]? = some p) (hb : b' = (b || decide (p.2 = k))) : b' = true ↔ (k = 0 ∨ ∃ (j : Nat) (q : R.Dc × Nat), j < i + 1 ∧ E[j]? = some q ∧ q.2 = k) := by
  subst hb
  rw [Bool.or_eq_true, decide_eq_true_eq, h]
  constructor
  · rintro ((h | ⟨j, q, h1, h2, h3⟩) | h)
    · exact .inl h
    · exact .inr ⟨j, q, by omega, h2, h3⟩
    · exact .inr ⟨i, p, by omega, hp, h⟩
  · rintro (h | ⟨j, q, h1, h2, h3⟩)
    · exact .inl (.inl h)
    · by_cases e : j = i
      · subst e
        rw [hp] at h2
        cases h2
        exact .inr h3
      · exact .inl (.inr ⟨j, q, by omega, h2, h3⟩)
theorem whole_end {E : List (R.Dc × Nat)} {k m : Nat} {b : Bool} (hm : E.length = m) (h : b = true ↔ (k = 0 ∨ ∃ (j : Nat) (q : R.Dc × Nat), j < m ∧ E[j]? = some q ∧ q.2 = k)) : b = true ↔ (k = 0 ∨ ∃ p ∈ E, p.2 = k) := by
  rw [h]
  constructor
  · rintro (h | ⟨j, q, h1, h2, h3⟩)
    · exact .inl h
    · exact .inr ⟨q, List.mem_of_getElem? h2, h3⟩
  · rintro (h | ⟨q, h2, h3⟩)
    · exact .inl h
    · obtain ⟨j, hj, e⟩ := List.getElem_of_mem h2
      exact .inr ⟨j, q, by omega, by rw [List.getElem?_eq_getElem hj, e], h3⟩
end Go.Proofs.YtfgblchnnhdlnaaGreatDoor
set_option linter.unusedVariables false
set_option linter.unusedSimpArgs false
namespace Go.Proofs.YtfgblchnnhdlnaaGreatDoor
open Go.RowKit
set_option maxRecDepth 100000 in
set_option maxHeartbeats 16000000 in
theorem cuts_walk (shs : List Sh) (ao : Option Addr) (cap : Nat) (cut : Int) (en : Bool) (el ec : Int) (w : World) (hc : shs.length ≤ cap) (hs : Shs w.heap.size shs ao w) (hsm : ∀ s ∈ shs, s.Small) (hwt : wt shs ≤ 1048576) (hT : TbB w.heap.size w) (hg : w.cell? ⟨0, 0, none⟩ = some (ty 33)) :
    Calls Tryz.prog 7 #[.slice ao shs.length cap, .int .i64 cut, .bool en, .int .i64 el, .int .i64 ec] w fun e w' => e = .returned (.bool true) ∧ Below w.heap.size w w' := by
  have hlw : shs.length ≤ wt shs := by
    unfold wt
    clear hc hs hsm hwt
    induction shs with
    | nil => simp
    | cons s l ih => simp; omega
  have hl : (shs.length : Int) < 1048577 := by omega
  have H := hide' (And.intro hs (And.intro hsm (And.intro hwt (And.intro hT hg))))
  clear hs hsm hwt hT hlw hg
  obtain ⟨i0, hy0, hy1, hy2, hy3⟩ := info_parts info59
  have Hz := hide' (And.intro hy0 (And.intro hy1 (And.intro hy2 hy3)))
  clear hy0 hy1 hy2 hy3
  obtain ⟨i1, hy0, hy1, hy2, hy3⟩ := info_parts info3
  have Hi := hide' (And.intro hy0 (And.intro hy1 (And.intro hy2 hy3)))
  clear hy0 hy1 hy2 hy3
  obtain ⟨i2, hy0, hy1, hy2, hy3⟩ := info_parts info29
  have Ht := hide' (And.intro hy0 (And.intro hy1 (And.intro hy2 hy3)))
  clear hy0 hy1 hy2 hy3
  go_enter Tryz.func7, Tryz.ntmps7
  go_wp2_with fail
  go_loopw [12, 13, 14] (fun vw ve vi wx => ∃ (k : Nat) (qs : List (List R.Tok × R.Dc)) (ps : List (R.Dc × Value)) (v : Value) (ln cl q : Int), vi = .int .i64 (k : Int) ∧ k ≤ shs.length ∧ ps.length = k ∧ qs.length = k ∧ ps.map Prod.fst = qs.map Prod.snd ∧ Lays qs ∧ (qs.flatMap Prod.fst).length ≤ 10 * wt (shs.take k) ∧ Dcs w.heap.size ps vw wx ∧ wx.ownsRow w.heap.size 3 1 ve k (eCells qs) ∧ Ld w.heap.size w.heap.size (qs.flatMap Prod.fst) v ln cl q wx ∧ Below w.heap.size w wx) (fun _ _ vi _ => shs.length - idxOf vi)
  case atStart =>
    refine ⟨0, [], [], .slice none 0 0, 0, 0, 0, rfl, Nat.zero_le _, rfl, rfl, rfl, Lays.nil, Nat.zero_le _, Dcs.nil _ _, ⟨rfl, Or.inl ⟨rfl, rfl⟩⟩, ⟨Nat.le_refl _, heap_alloc_new _ _, rfl, Or.inl ⟨rfl, rfl⟩⟩, (Below.refl _ _).alloc (Nat.le_refl _) _⟩
  case round =>
    obtain ⟨k, qs, ps, v, ln, cl, q, rfl, hk, hpl, hql, hpq, hL, hln, hD, hE, L, hb⟩ := hrel
    by_cases hkl : k < shs.length
    · obtain ⟨s, hsk⟩ : ∃ s, shs[k]? = some s := ⟨_, List.getElem?_eq_getElem hkl⟩
      obtain ⟨bb, o, rfl, hbb, hcell, hin⟩ := (H.out.1.old (w' := wr) (fun p hp => hb.cell hp)) k s hsk
      have hki : (k : Int) < (shs.length : Int) := by omega
      have hk0 : (0 : Int) ≤ (k : Int) := by omega
      have hsmk := H.out.2.1 s (List.mem_of_getElem? hsk)
      have hwk := wt_take shs k s hsk
      have hwl := wt_le shs (k + 1)
      have hwt := H.out.2.2.1
      have fw : Hid ((qs.flatMap Prod.fst).length + 2 * s.names.length + 10 ≤ R.lim) := (show _ ≤ R.lim by unfold R.lim; omega)
      have b1' : Hid (ps.length + 1 ≤ maxLen) := (show ps.length + 1 ≤ maxLen by unfold maxLen; omega)
      have b2' : Hid ((ps.length + 1) * 128 ≤ 140737488355328) := (show (ps.length + 1) * 128 ≤ 140737488355328 by omega)
      have b3' : Hid (k + 1 ≤ maxLen) := (show k + 1 ≤ maxLen by unfold maxLen; omega)
      have b4' : Hid ((k + 1) * 8 ≤ 140737488355328) := (show (k + 1) * 8 ≤ 140737488355328 by omega)
      have KK := hide' (And.intro hpl (And.intro hql (And.intro hpq (And.intro hL (And.intro hln (And.intro hD (And.intro hE (And.intro L (And.intro hb (And.intro hsmk (And.intro hwk hin)))))))))))
      clear hpl hql hpq hL hln hD hE L hsmk hwk hin hwl hwt hsk hb
      obtain ⟨kind, head, on, na, names, nc, all, cond, num, quo, line, col⟩ := s
      unfold Sh.cells at hcell
      simp only at hcell fw
      have s0 := hcell 0 _ rfl
      have s1 := hcell 1 _ rfl
      have s2 := hcell 2 _ rfl
      have s3 := hcell 3 _ rfl
      have s4 := hcell 4 _ rfl
      have s5 := hcell 5 _ rfl
      have s6 := hcell 6 _ rfl
      have s7 := hcell 7 _ rfl
      have s8 := hcell 8 _ rfl
      have s9 := hcell 9 _ rfl
      rw [Nat.add_zero] at s0
      clear hcell
      go_wp2_with fail
      obtain ⟨hpl, hql, hpq, hL, hln, hD, hE, L, hb, hsmk, hwk, hin⟩ := KK.out
      refine (laid_any (sh := ⟨kind, head, on, na, names, nc, all, cond, num, quo, line, col⟩) L hin hsmk fw.out).mono ?_
      rintro e w3 ⟨T, d, sv, v3, l3, c3, q3, rfl, row, hR, h5, hTl, hTs, L3, S3⟩
      obtain ⟨sa, sc, rfl⟩ := row_form row
      have D3 := hD.lst L S3
      have E3 := L.other S3 hE (by decide) (by decide)
      have b3 := hb.trans (Lst.below L S3)
      have z3 := b3.size
      have z2 := hb.size
      have K3 := hide' (And.intro hpl (And.intro hql (And.intro hpq (And.intro hL (And.intro hln (And.intro hwk (And.intro hD (And.intro row (And.intro hR (And.intro h5 (And.intro hTl (And.intro hTs (And.intro L3 (And.intro D3 (And.intro E3 (And.intro b3 z2))))))))))))))))
      have R3 := hide' D3.row
      clear hpl hql hpq hL hln hD hE L hsmk hwk hin row hR h5 hTl hTs L3 S3 D3 E3 b3 KK s0 s1 s2 s3 s4 s5 s6 s7 s8 s9 z2 hb
      unfold dl
      obtain ⟨N, hN⟩ : ∃ N, (qs.flatMap Prod.fst ++ T).length = N := ⟨_, rfl⟩
      have HN := hide' hN
      clear hN
      go_wp2_with (first | (have G := E4; at_builtin; refine wpList_append_lies _ rfl _ _ 62 rfl w.heap.size 3 i1 _ 1 8 Tryz.underlying62 Hi.out.1 Hi.out.2.1 Hi.out.2.2.1 Hi.out.2.2.2 rfl (by decide) _ _ _ rfl (E4.out.2.2.1.alloc _) ⟨w4.heap.size, 0, none⟩ 1 1 [.int .i64 (N : Int)] rfl rfl (one_new _ _ _) (by simp [Value.oneCell']) (by decide) b3'.out b4'.out (by have := E4.out.2.2.2; simp; omega) _ rfl ?_; intro g5 cp5 w5 hrow5 hgrow5 hat5 hlt5) | (at_builtin; refine wpList_append_lies _ rfl _ _ 23 rfl w.heap.size 59 i0 _ 13 128 Tryz.underlying23 Hz.out.1 Hz.out.2.1 Hz.out.2.2.1 Hz.out.2.2.2 rfl (by decide) _ _ _ rfl (R3.out.alloc _) ⟨w3.heap.size, 0, none⟩ 1 1 (dl d (.slice sa d.names.length sc)) rfl rfl (news13 _ _ _) (by simp [dl, Value.oneCell']) (by decide) b1'.out b2'.out (by simp; omega) _ rfl ?_; intro g cp w4 hrow4 hgrow4 hat4 hlt4; replace hgrow4 : (w3.alloc (.cells (dl d (.slice sa d.names.length sc)).toArray 59)).grownBy w4 u12.ownBlock := hgrow4; obtain ⟨x4, y4, e4, L4, r4⟩ := cut_step K3.out.2.2.2.2.2.2.2.2.2.2.2.2.1 K3.out.2.2.2.2.2.2.2.2.2.2.2.2.2.1 K3.out.2.2.2.2.2.2.2.2.2.2.2.2.2.2.1 hgrow4 HN.out; have z4 := hgrow4.size; rw [World.size_alloc] at z4; have E4 := hide' (And.intro (And.intro hrow4 hgrow4) (And.intro L4 (And.intro r4 (show w.heap.size ≤ w4.heap.size by omega)))); clear hrow4 hgrow4 hat4 hlt4 L4 r4))
      replace hgrow5 : (w4.alloc (.cells #[.int .i64 (N : Int)] 3)).grownBy w5 u13.ownBlock := hgrow5
      clear hat5 hlt5 G
      obtain ⟨⟨hrow4, hgrow4⟩, L4, r4, z4'⟩ := E4.out
      obtain ⟨hpl, hql, hpq, hL, hln, hwk, D2, row, hR, h5, hTl, hTs, L3, D3, E3, b3, z2⟩ := K3.out
      have hd4 := D2.app z2 D3 row hrow4 hgrow4
      have hd5 := hd4.grownE r4 hgrow5
      obtain ⟨L5, T5⟩ := L4.grown r4 (by decide) (by decide) hgrow5
      have T4 := (L3.grown D3.row (by decide) (by decide) hgrow4).2
      have b4 := b3.trans (T4.below (fun j hj => (D3.row.lt j hj).1) z3)
      have b5 := b4.trans (T5.below (fun j hj => (r4.lt j hj).1) z4')
      refine ⟨⟨k + 1, qs ++ [(T, d)], ps ++ [(d, .slice sa d.names.length sc)], v3, l3, c3, q3, by simp, by omega, by simp; omega, by simp; omega, ?_, hL.snoc hR h5 hTs, ?_, ?_, ?_, ?_, b5⟩, by simp [idxOf]; omega⟩
      · rw [snd_snoc, List.map_append, hpq]; rfl
      · rw [flat_snoc, List.length_append, hwk]; (try simp only at hTl ⊢); omega
      · simpa using hd5
      · rw [eCells_snoc, HN.out]; exact hrow5
      · rw [flat_snoc]; exact L5
    · obtain rfl : k = shs.length := by omega
      rw [List.take_length] at hln
      obtain ⟨TS, hTS⟩ : ∃ TS, qs.flatMap Prod.fst = TS := ⟨_, rfl⟩
      have hsmall := hL.small
      have hfive := hL.five
      have hdd := fun k hk l e he hs hl => R.Lay.decls_cut qs hL (k := k) hk l e he hs hl
      have hrise := R.Lay.chain_rise _ _ (R.Lay.chain_laid qs hL.reads)
      have hel := R.Lay.ends_len qs 0
      have hef := R.Lay.ends_fst qs 0
      unfold eCells at hE
      rw [hTS] at hsmall hfive hln L hdd
      obtain ⟨E, hEE⟩ : ∃ E, R.Lay.ends 0 qs = E := ⟨_, rfl⟩
      rw [hEE] at hdd hrise hel hef hE
      rw [hql] at hel
      rw [← hef] at hpq
      obtain ⟨sE, cE, rfl⟩ := row_form hE
      have HS := hide' (And.intro hsmall (And.intro hfive (And.intro hdd (And.intro hrise (And.intro hel hpq)))))
      clear hsmall hfive hdd hrise hel hpq hL hTS hEE hef hql
      have hki : ¬ ((shs.length : Int) < (shs.length : Int)) := by omega
      have KK := hide' (And.intro hpl (And.intro hln (And.intro hD (And.intro hE (And.intro L hb)))))
      clear hpl hln hD hE L hb
      go_wp2_with fail
      obtain ⟨hpl, hln, hD, hE, L, hb⟩ := KK.out
      refine (alive_any w.heap.size wr (H.out.2.2.2.1.below hb)).mono ?_
      rintro e w1 ⟨rfl, b1⟩
      have L1 := L.quiet b1
      have D1 := hD.turn (turn_below (S := fun _ => False) b1) (fun _ _ q => q)
      have E1 := (turn_below (S := fun _ => False) b1).row hE (fun _ _ q => q)
      have hb1 := hb.trans (b1.mono hb.size)
      obtain ⟨x7, c7, rfl, hc7, t7⟩ := toks_row L1.row
      have e0 := L1.c0
      have hwt := H.out.2.2.1
      have hlen : (TS.length : Int) < 10485761 := by omega
      have hPK := pick_any cut ((TS.length : Int) + 1) w1 ⟨by omega, by omega⟩
      have hpk := pik_bd cut ((TS.length : Int) + 1) (by omega)
      obtain ⟨k, hk⟩ : ∃ k : Nat, pik cut ((TS.length : Int) + 1) = (k : Int) := ⟨(pik cut ((TS.length : Int) + 1)).toNat, by omega⟩
      rw [hk] at hPK hpk
      have HPK := hide' hPK
      have hwr : IntKind.i64.wrap ((TS.length : Int) + 1) = (TS.length : Int) + 1 := by rw [IntKind.wrap_i64]; omega
      have hkT : k ≤ TS.length := by omega
      have hkc : k ≤ c7 := by omega
      have K1 := hide' (And.intro hpl (And.intro L1 (And.intro D1 (And.intro E1 (And.intro hb1 t7)))))
      clear hpl hln hD hE L hb L1 D1 E1 hb1 t7 b1 KK hPK hk
      go_wp2_with fail
      refine HPK.out.mono ?_
      rintro e w1' ⟨rfl, hw1⟩
      replace hw1 := hw1.symm
      subst hw1
      clear HPK hwr
      go_wp2_with fail
      go_loopw [17, 18, 19] (fun vn vb vi wx => ∃ (i n : Nat) (b : Bool), wx = w1 ∧ vi = .int .i64 (i : Int) ∧ vn = .int .i64 (n : Int) ∧ vb = .bool b ∧ i ≤ shs.length ∧ n ≤ i ∧ (∀ j p, j < i → E[j]? = some p → (p.2 ≤ k ↔ j < n)) ∧ (b = true ↔ (k = 0 ∨ ∃ j p, j < i ∧ E[j]? = some p ∧ p.2 = k))) (fun _ _ vi _ => shs.length - idxOf vi)
      case atStart =>
        refine ⟨0, 0, _, rfl, rfl, rfl, rfl, Nat.zero_le _, Nat.zero_le _, fun j p hj => by omega, ?_⟩
        simp
      case round =>
        obtain ⟨i, n, bw, rfl, rfl, rfl, rfl, hi, hn, hcount, hwhole⟩ := hrel
        by_cases hil : i < shs.length
        · obtain ⟨p, hp⟩ : ∃ p, E[i]? = some p := ⟨_, List.getElem?_eq_getElem (by rw [HS.out.2.2.2.2.1]; exact hil)⟩
          obtain ⟨gE, cE', e1, hcE, _, hgl, hcells⟩ := row_cells K1.out.2.2.2.1 (by omega)
          simp only [Value.slice.injEq] at e1
          obtain ⟨rfl, _, rfl⟩ := e1
          have ci := hcells i _ (by rw [List.getElem?_map, hp]; rfl)
          have hii : (i : Int) < (shs.length : Int) := by omega
          have hi0 : (0 : Int) ≤ (i : Int) := by omega
          have HH := hide' (And.intro hcount (And.intro hwhole hp))
          clear hcount hwhole hp hcells
          obtain ⟨pd, px⟩ := p
          simp only at ci
          have hiw : IntKind.i64.wrap ((i : Int) + 1) = (i : Int) + 1 := by rw [IntKind.wrap_i64]; omega
          have HB := hide' (And.intro hwt (And.intro hlen (And.intro hpk (And.intro hkT (And.intro hkc hl)))))
          clear hwt hlen hpk hkT hkc hc7 hc hl hki hk hkl
          rcases Nat.lt_trichotomy px k with hlt | hlt | hlt
          · cases bw
            · have e1 : decide ((px : Int) ≤ (k : Int)) = true := by simp; omega
              have e3 : decide (px ≤ k) = true := by simp; omega
              have e5 : (px ≤ k) := by omega
              have e2 : ((px : Int) == (k : Int)) = false := by simp; omega
              have HL := hide' hlt
              clear hlt
              go_wp2_with fail
              have hlt := HL.out
              obtain ⟨hcount, hwhole, hp⟩ := HH.out
              have hrise := HS.out.2.2.2.1
              refine ⟨⟨i + 1, i + 1, false, by first | trivial | rfl, by simp, by simp, rfl, by omega, by omega, count_le hrise hp (by simp only; omega), whole_step hwhole hp (by simp; try omega)⟩, by simp [idxOf]; omega⟩
            · have e1 : decide ((px : Int) ≤ (k : Int)) = true := by simp; omega
              have e3 : decide (px ≤ k) = true := by simp; omega
              have e5 : (px ≤ k) := by omega
              have e2 : ((px : Int) == (k : Int)) = false := by simp; omega
              have HL := hide' hlt
              clear hlt
              go_wp2_with fail
              have hlt := HL.out
              obtain ⟨hcount, hwhole, hp⟩ := HH.out
              have hrise := HS.out.2.2.2.1
              refine ⟨⟨i + 1, i + 1, true, by first | trivial | rfl, by simp, by simp, rfl, by omega, by omega, count_le hrise hp (by simp only; omega), whole_step hwhole hp (by simp; try omega)⟩, by simp [idxOf]; omega⟩
          · cases bw
            · have e1 : decide ((px : Int) ≤ (k : Int)) = true := by simp; omega
              have e3 : decide (px ≤ k) = true := by simp; omega
              have e5 : (px ≤ k) := by omega
              have e2 : ((px : Int) == (k : Int)) = true := by simp; omega
              have HL := hide' hlt
              clear hlt
              go_wp2_with fail
              have hlt := HL.out
              obtain ⟨hcount, hwhole, hp⟩ := HH.out
              have hrise := HS.out.2.2.2.1
              refine ⟨⟨i + 1, i + 1, true, by first | trivial | rfl, by simp, by simp, rfl, by omega, by omega, count_le hrise hp (by simp only; omega), whole_step hwhole hp (by simp; try omega)⟩, by simp [idxOf]; omega⟩
            · have e1 : decide ((px : Int) ≤ (k : Int)) = true := by simp; omega
              have e3 : decide (px ≤ k) = true := by simp; omega
              have e5 : (px ≤ k) := by omega
              have e2 : ((px : Int) == (k : Int)) = true := by simp; omega
              have HL := hide' hlt
              clear hlt
              go_wp2_with fail
              have hlt := HL.out
              obtain ⟨hcount, hwhole, hp⟩ := HH.out
              have hrise := HS.out.2.2.2.1
              refine ⟨⟨i + 1, i + 1, true, by first | trivial | rfl, by simp, by simp, rfl, by omega, by omega, count_le hrise hp (by simp only; omega), whole_step hwhole hp (by simp; try omega)⟩, by simp [idxOf]; omega⟩
          · cases bw
            · have e1 : decide ((px : Int) ≤ (k : Int)) = false := by simp; omega
              have e3 : decide (px ≤ k) = false := by simp; omega
              have e5 : ¬ (px ≤ k) := by omega
              have e2 : ((px : Int) == (k : Int)) = false := by simp; omega
              have HL := hide' hlt
              clear hlt
              go_wp2_with fail
              have hlt := HL.out
              obtain ⟨hcount, hwhole, hp⟩ := HH.out
              have hrise := HS.out.2.2.2.1
              refine ⟨⟨i + 1, n, false, by first | trivial | rfl, by simp, by simp, rfl, by omega, by omega, count_gt hcount hn hp (by simp only; omega), whole_step hwhole hp (by simp; try omega)⟩, by simp [idxOf]; omega⟩
            · have e1 : decide ((px : Int) ≤ (k : Int)) = false := by simp; omega
              have e3 : decide (px ≤ k) = false := by simp; omega
              have e5 : ¬ (px ≤ k) := by omega
              have e2 : ((px : Int) == (k : Int)) = false := by simp; omega
              have HL := hide' hlt
              clear hlt
              go_wp2_with fail
              have hlt := HL.out
              obtain ⟨hcount, hwhole, hp⟩ := HH.out
              have hrise := HS.out.2.2.2.1
              refine ⟨⟨i + 1, n, true, by first | trivial | rfl, by simp, by simp, rfl, by omega, by omega, count_gt hcount hn hp (by simp only; omega), whole_step hwhole hp (by simp; try omega)⟩, by simp [idxOf]; omega⟩
        · obtain rfl : i = shs.length := by omega
          have hel := HS.out.2.2.2.2.1
          have hfin := whole_end hel hwhole
          have hflt := R.Lay.filter_take E k n (fun j p hj => hcount j p (by have := (List.getElem?_eq_some_iff.1 hj).1; omega) hj) (by omega)
          have hii : ¬ ((shs.length : Int) < (shs.length : Int)) := by omega
          have hTk : (TS.take k).length = k := by rw [List.length_take]; omega
          have HF := hide' (And.intro hfin (And.intro hflt hTk))
          clear hcount hwhole hel hfin hflt hTk
          go_wp2_with fail
          obtain ⟨hpl, L1, D1, E1, hb1, t7⟩ := K1.out
          obtain ⟨hfin, hflt, hTk⟩ := HF.out
          refine (twin_at (TS.take k) k hTk x7 c7 wr (by unfold R.lim; omega) (t7.take k)).mono ?_
          rintro e w2 ⟨v2, rfl, r2, b2⟩
          obtain ⟨x2, c2, rfl, hc2, t2⟩ := toks_row r2
          rw [hTk]
          rw [hTk] at hc2
          have L2 := L1.quiet b2
          have D2 := D1.turn (turn_below (S := fun _ => False) b2) (fun _ _ q => q)
          have hb2 := hb1.trans (b2.mono hb1.size)
          obtain ⟨sW, cW, rfl⟩ := row_form D2.row
          have HQ := hide' hpl
          have hnW : n ≤ cW := by have := row_cap D2.row; omega
          have ea := L2.c0
          cases en
          · have ba : Below w2.heap.size w2 (w2.alloc (.cells #[.int .i64 40, .int .i64 0, .int .i64 0, .string ⟨#[]⟩] 26)) := (Below.refl _ _).alloc (Nat.le_refl _) _
            have hbD := hb2.trans (ba.mono hb2.size)
            have KD := hide' (And.intro hbD (And.intro (t2.below ba) (And.intro (D2.turn (turn_below (S := fun _ => False) ba) (fun _ _ q => q)) hc2)))
            clear hpl L1 D1 E1 hb1 t7 r2 b2 t2 L2 D2 hb2 ba hbD hfin hflt hTk
            go_wp2_with fail
            obtain ⟨hbD, tz, DD, hcz0⟩ := KD.out
            obtain ⟨hfin, hflt, hTk⟩ := HF.out
            have pbD : (w2.alloc (.cells #[.int .i64 40, .int .i64 0, .int .i64 0, .string ⟨#[]⟩] 26)).heap[w2.heap.size]? = some (.cells #[.int .i64 40, .int .i64 0, .int .i64 0, .string ⟨#[]⟩] 26 (0, 0)) := heap_alloc_new _ _
            generalize (w2.alloc (.cells #[.int .i64 40, .int .i64 0, .int .i64 0, .string ⟨#[]⟩] 26)) = WD at *
            have hZl := hTk
            have hzl : (TS.take k).length < R.lim := by rw [hTk]; unfold R.lim; omega
            have hcz : (TS.take k).length ≤ c2 := by rw [hTk]; exact hcz0
            have okz : TkOk (TS.take k) := ⟨by rw [hTk]; unfold R.lim; omega, fun t ht => by have := HS.out.1 t (List.mem_of_mem_take ht); unfold R.lim; omega⟩
            have hTz := H.out.2.2.2.1.below hbD
            have hcut := HS.out.2.2.1 k hkT (TS.take k) (5, ByteArray.empty, 0, 0) rfl (R.Lay.src_plain _ (fun x hx => HS.out.2.1 x (List.mem_of_mem_take hx))) (by omega)
            refine (decls_at (TS.take k) k hZl x2 c2 w.heap.size WD hcz okz tz hTz).mono ?_
            rintro e w6 ⟨d6, b6⟩
            unfold DeclsIs at d6
            have hb6 := hbD.trans (b6.mono hbD.size)
            cases bw
            · have hbad := hcut.2 (fun q => by have := hfin.2 q; cases this)
              simp only [hbad.1] at d6
              obtain ⟨fb, rfl, _, hF⟩ := d6
              rw [hbad.2] at hF
              have hF' : Flt fb 40 0 0 ⟨#[]⟩ w6 := hF
              have g6 := (hb6.cell (p := ⟨0, 0, none⟩) (lt_of_cell H.out.2.2.2.2)).trans H.out.2.2.2.2
              have k6 := (b6.block _ (Array.getElem?_eq_some_iff.1 pbD).1).trans pbD
              have K6 := hide' (And.intro hF' (And.intro g6 (And.intro k6 hb6)))
              clear hbad hF hF' g6 k6 hb6 b6 hcut hcz okz tz hTz hbD pbD DD hzl hZl hfin hflt hTk KD hcz0
              go_wp2_with fail
              obtain ⟨hF', g6, k6, hb6⟩ := K6.out
              refine (told_flt fb 40 0 0 rfl ⟨#[]⟩ w6 hF' g6).mono ?_
              rintro e w7 ⟨rfl, b7⟩
              have k7 := (b7.block _ (Array.getElem?_eq_some_iff.1 k6).1).trans k6
              have zk := (Array.getElem?_eq_some_iff.1 k7).1
              have al : ∀ o, (w7.alloc o).heap[w2.heap.size]? = some (.cells #[.int .i64 40, .int .i64 0, .int .i64 0, .string ⟨#[]⟩] 26 (0, 0)) := fun o => (Below.heap_alloc _ _ _ zk).trans k7
              have a0 : ∀ o, (w7.alloc o).cell? ⟨w2.heap.size, 0, none⟩ = some (.int .i64 40) := fun o => (Tk.of_cells (al o)).c0
              have a1 : ∀ o, (w7.alloc o).cell? ⟨w2.heap.size, 1, none⟩ = some (.int .i64 0) := fun o => (Tk.of_cells (al o)).c1
              have a2 : ∀ o, (w7.alloc o).cell? ⟨w2.heap.size, 2, none⟩ = some (.int .i64 0) := fun o => (Tk.of_cells (al o)).c2
              have a3 : ∀ o, (w7.alloc o).cell? ⟨w2.heap.size, 3, none⟩ = some (.string ⟨#[]⟩) := fun o => (Tk.of_cells (al o)).c3
              have hb7 := hide' (hb6.trans (b7.mono hb6.size))
              clear hF' g6 k6 hb6 b7 k7 zk al K6
              go_wp2
              go_ret
              exact ⟨rfl, hb7.out.alloc hb7.out.size _⟩
            · have hok := hcut.1 (hfin.1 rfl)
              rw [hflt] at hok
              have fin3 := R.decls_fine hzl hok
              simp only [hok] at d6
              obtain ⟨ps3, v8, rfl, e3, D8⟩ := d6
              have D6 := DD.turn (turn_below (S := fun _ => False) b6) (fun _ _ q => q)
              have K6 := hide' (And.intro fin3 (And.intro e3 (And.intro D8 (And.intro D6 hb6))))
              clear hok fin3 e3 D8 D6 hb6 b6 hcut hcz okz tz hTz hbD pbD DD hzl hZl hfin hflt hTk KD hcz0
              go_wp2_with fail
              refine (told_nil w6).mono ?_
              rintro e w7 ⟨rfl, b7⟩
              unfold zfault
              obtain ⟨fin3, e3, D8, D6, hb6⟩ := K6.out
              have ba : Below w7.heap.size w7 (w7.alloc (.cells #[.int .i64 0, .int .i64 0, .int .i64 0, .string ⟨#[]⟩] 26)) := (Below.refl _ _).alloc (Nat.le_refl _) _
              have b67 := b7.trans (ba.mono b7.size)
              have D8' := D8.turn (turn_below (S := fun _ => False) b67) (fun _ _ q => q)
              have D6' := (D6.turn (turn_below (S := fun _ => False) b67) (fun _ _ q => q)).take (n := n) rfl (by have := HQ.out; omega)
              have he : ps3.map Prod.fst = (ps.take n).map Prod.fst := by rw [← e3, List.map_take, List.map_take, HS.out.2.2.2.2.2]
              have fine3 : ∀ p ∈ ps3, p.1.Fine := fun p hp => fin3.1 p.1 (by rw [e3]; exact List.mem_map_of_mem hp)
              have l3 : ps3.length ≤ R.lim := by
                have := congrArg List.length he
                simp only [List.length_map, List.length_take] at this
                unfold R.lim; omega
              have AL := hide' (And.intro (alike_eq ps3 (ps.take n) v8 (.slice sW n cW) _ _ _ D8' D6' he fine3 l3) (hb6.trans (b67.mono hb6.size)))
              clear fin3 e3 D8 D6 hb6 b7 ba b67 D8' D6' he fine3 l3 K6
              go_wp2_with fail
              refine AL.out.1.mono ?_
              rintro e w9 ⟨rfl, b9⟩
              have hb9 := hide' (AL.out.2.trans (b9.mono AL.out.2.size))
              clear AL b9
              go_wp2
              go_ret
              exact ⟨rfl, hb9.out⟩
          · have z12 : (w2.alloc (.cells #[.int .i64 40, .int .i64 0, .int .i64 0, .string ⟨#[]⟩] 26)).heap.size = w2.heap.size + 1 := by simp
            have ba : Below w2.heap.size w2 (w2.alloc (.cells #[.int .i64 40, .int .i64 0, .int .i64 0, .string ⟨#[]⟩] 26)) := (Below.refl _ _).alloc (Nat.le_refl _) _
            have n1 : Hid (k + 1 ≤ maxLen) := (show k + 1 ≤ maxLen by unfold maxLen; omega)
            have n2 : Hid ((k + 1) * 40 ≤ 140737488355328) := (show (k + 1) * 40 ≤ 140737488355328 by omega)
            have z2 : Hid (wr.heap.size ≤ w2.heap.size) := b2.size
            rw [hTk] at r2
            have R2 := hide' (And.intro (r2.alloc (.cells #[.int .i64 40, .int .i64 0, .int .i64 0, .string ⟨#[]⟩] 26)) z12)
            have KD := hide' (And.intro L1 (And.intro D1 (And.intro hb1 (And.intro b2 (And.intro r2 t7)))))
            rcases L2.row.2 with ⟨e1, e2⟩ | ⟨g7, c7', cur7, e1, h71, h72, h73, h74, h75, h76⟩
            · simp only [Value.slice.injEq] at e1
              obtain ⟨rfl, _, rfl⟩ := e1
              clear hpl L1 D1 E1 hb1 t7 r2 b2 t2 L2 D2 hb2 ba hfin hflt hTk
              have HLn := hide' (drop_len TS k)
              have m1 : Hid (k + 1 + (TS.length - k) ≤ maxLen) := (show _ ≤ maxLen by unfold maxLen; omega)
              have m2 : Hid ((k + 1 + (TS.length - k)) * 40 ≤ 140737488355328) := (show _ ≤ 140737488355328 by omega)
              have HB := hide' (And.intro hwt (And.intro hlen (And.intro hpk (And.intro hl (And.intro hi hn)))))
              clear hwt hlen hpk hl hi hn z12 hc2 hii hki hk hkl hil
              go_wp2_with ((fail_if_success (have G := E4)); at_builtin; refine wpList_append_lies _ rfl _ _ 40 rfl wr.heap.size 44 i2 _ 4 40 Tryz.underlying40 Ht.out.1 Ht.out.2.1 Ht.out.2.2.1 Ht.out.2.2.2 rfl (by decide) _ _ _ rfl (R2.out.1.alloc _) ⟨w2.heap.size + 1, 0, none⟩ 1 1 [.int .i8 5, .string ⟨#[101, 110, 100]⟩, .int .i64 el, .int .i64 ec] rfl rfl (four_at _ _ R2.out.2 _ _ _ _ _) (by simp [Value.oneCell']) (by decide) n1.out n2.out (by have := z2.out; simp; omega) _ rfl ?_; intro g cp w4 hrow4 hgrow4 hat4 hlt4; replace hgrow4 : ((w2.alloc (.cells #[.int .i64 40, .int .i64 0, .int .i64 0, .string ⟨#[]⟩] 26)).alloc (.cells #[.int .i8 5, .string ⟨#[101, 110, 100]⟩, .int .i64 el, .int .i64 ec] 44)).grownBy w4 (Value.slice x2 k c2).ownBlock := hgrow4; obtain ⟨bq, pb4⟩ := end_below KD.out.2.2.2.1 KD.out.2.2.2.2.1 hgrow4; have e4 := (KD.out.1.quiet bq).c0; have E4 := hide' (And.intro hrow4 (And.intro bq pb4)); have tk4 := Tk.of_cells pb4; have y1 := tk4.c1; have y2 := tk4.c2; have q1 := tk4.f 1 (by decide); have q2 := tk4.f 2 (by decide); have hcp := row_cap hrow4; clear hrow4 hgrow4 hat4 hlt4 bq pb4 tk4)
              obtain ⟨r9, b9, pb9⟩ := E4.out
              obtain ⟨bW, pbD, rW⟩ := end_world b9 z2.out pb9 r9 el ec
              generalize ((w4.setCell ⟨w2.heap.size, 1, none⟩ (.int .i64 el)).setCell ⟨w2.heap.size, 2, none⟩ (.int .i64 ec)) = WD at *
              obtain ⟨L1, D1, hb1, b2, r2, t7⟩ := KD.out
              obtain ⟨hfin, hflt, hTk⟩ := HF.out
              obtain ⟨hwt, hlen, hpk, hl, hi, hn⟩ := HB.out
              have hbD := hb1.trans (bW.mono hb1.size)
              have DD := D1.turn (turn_below (S := fun _ => False) bW) (fun _ _ q => q)
              have hsrc := src_end TS k HS.out.2.1 el ec []
              have hZs : ∀ t ∈ (TS.take k ++ [((5, ⟨#[101, 110, 100]⟩, el, ec) : R.Tok)]), t.2.1.size ≤ 1048576 := by
                intro t ht
                rcases List.mem_append.1 ht with q | q
                · exact HS.out.1 t (List.mem_of_mem_take q)
                · simp at q; subst q; exact of_decide_eq_true rfl
              have hZl : (TS.take k ++ [((5, ⟨#[101, 110, 100]⟩, el, ec) : R.Tok)]).length = k + 1 := by
                rw [List.length_append, hTk]; rfl
              have rZ : WD.ownsRow wr.heap.size 44 4 (.slice (some ⟨g, 0, none⟩) (k + 1) cp) (TS.take k ++ [((5, ⟨#[101, 110, 100]⟩, el, ec) : R.Tok)]).length ((TS.take k ++ [((5, ⟨#[101, 110, 100]⟩, el, ec) : R.Tok)]).flatMap cellsT) := by
                rw [hZl, List.flatMap_append]
                have e : ([((5, ⟨#[101, 110, 100]⟩, el, ec) : R.Tok)] : List R.Tok).flatMap cellsT = [.int .i8 5, .string ⟨#[101, 110, 100]⟩, .int .i64 el, .int .i64 ec] := rfl
                rw [e]
                exact rW
              obtain ⟨Z, hZZ⟩ : ∃ Z, TS.take k ++ [((5, ⟨#[101, 110, 100]⟩, el, ec) : R.Tok)] = Z := ⟨_, rfl⟩
              rw [hZZ] at hZl hZs hsrc rZ
              obtain ⟨xz, cz, ez, hcz, tz⟩ := toks_row rZ
              rw [hZl] at ez
              cases ez
              have hzl : Z.length < R.lim := by rw [hZl]; unfold R.lim; omega
              have okz : TkOk Z := ⟨by rw [hZl]; unfold R.lim; omega, fun t ht => by have := hZs t ht; unfold R.lim; omega⟩
              have hTz := H.out.2.2.2.1.below hbD
              have hcut := HS.out.2.2.1 k hkT Z (5, ByteArray.empty, el, ec) rfl hsrc (by rw [hZl]; omega)
              refine (decls_at Z (k + 1) hZl (some ⟨g, 0, none⟩) cp w.heap.size WD hcz okz tz hTz).mono ?_
              rintro e w6 ⟨d6, b6⟩
              unfold DeclsIs at d6
              have hb6 := hbD.trans (b6.mono hbD.size)
              cases bw
              · have hbad := hcut.2 (fun q => by have := hfin.2 q; cases this)
                simp only [hbad.1] at d6
                obtain ⟨fb, rfl, _, hF⟩ := d6
                rw [hbad.2] at hF
                have hF' : Flt fb 40 el ec ⟨#[]⟩ w6 := hF
                have g6 := (hb6.cell (p := ⟨0, 0, none⟩) (lt_of_cell H.out.2.2.2.2)).trans H.out.2.2.2.2
                have k6 := (b6.block _ (Array.getElem?_eq_some_iff.1 pbD).1).trans pbD
                have K6 := hide' (And.intro hF' (And.intro g6 (And.intro k6 hb6)))
                clear hbad hF hF' g6 k6 hb6 b6 hcut hcz okz tz hTz hbD pbD DD hzl hZl hfin hflt hTk hZZ rZ hZs hsrc r9 b9 pb9 bW rW L1 D1 hb1 b2 r2 t7 KD E4 y1 y2 q1 q2 hwt hlen hpk hi
                go_wp2_with fail
                obtain ⟨hF', g6, k6, hb6⟩ := K6.out
                refine (told_flt fb 40 el ec rfl ⟨#[]⟩ w6 hF' g6).mono ?_
                rintro e w7 ⟨rfl, b7⟩
                have k7 := (b7.block _ (Array.getElem?_eq_some_iff.1 k6).1).trans k6
                have zk := (Array.getElem?_eq_some_iff.1 k7).1
                have al : ∀ o, (w7.alloc o).heap[w2.heap.size]? = some (.cells #[.int .i64 40, .int .i64 el, .int .i64 ec, .string ⟨#[]⟩] 26 (0, 0)) := fun o => (Below.heap_alloc _ _ _ zk).trans k7
                have a0 : ∀ o, (w7.alloc o).cell? ⟨w2.heap.size, 0, none⟩ = some (.int .i64 40) := fun o => (Tk.of_cells (al o)).c0
                have a1 : ∀ o, (w7.alloc o).cell? ⟨w2.heap.size, 1, none⟩ = some (.int .i64 el) := fun o => (Tk.of_cells (al o)).c1
                have a2 : ∀ o, (w7.alloc o).cell? ⟨w2.heap.size, 2, none⟩ = some (.int .i64 ec) := fun o => (Tk.of_cells (al o)).c2
                have a3 : ∀ o, (w7.alloc o).cell? ⟨w2.heap.size, 3, none⟩ = some (.string ⟨#[]⟩) := fun o => (Tk.of_cells (al o)).c3
                have hb7 := hide' (hb6.trans (b7.mono hb6.size))
                clear hF' g6 k6 hb6 b7 k7 zk al K6
                go_wp2
                go_ret
                exact ⟨rfl, hb7.out.alloc hb7.out.size _⟩
              · have hok := hcut.1 (hfin.1 rfl)
                rw [hflt] at hok
                have fin3 := R.decls_fine hzl hok
                simp only [hok] at d6
                obtain ⟨ps3, v8, rfl, e3, D8⟩ := d6
                have D6 := DD.turn (turn_below (S := fun _ => False) b6) (fun _ _ q => q)
                have K6 := hide' (And.intro fin3 (And.intro e3 (And.intro D8 (And.intro D6 hb6))))
                clear hok fin3 e3 D8 D6 hb6 b6 hcut hcz okz tz hTz hbD pbD DD hzl hZl hfin hflt hTk hZZ rZ hZs hsrc r9 b9 pb9 bW rW L1 D1 hb1 b2 r2 t7 KD E4 y1 y2 q1 q2 hwt hlen hpk hi
                go_wp2_with fail
                refine (told_nil w6).mono ?_
                rintro e w7 ⟨rfl, b7⟩
                unfold zfault
                obtain ⟨fin3, e3, D8, D6, hb6⟩ := K6.out
                have ba : Below w7.heap.size w7 (w7.alloc (.cells #[.int .i64 0, .int .i64 0, .int .i64 0, .string ⟨#[]⟩] 26)) := (Below.refl _ _).alloc (Nat.le_refl _) _
                have b67 := b7.trans (ba.mono b7.size)
                have D8' := D8.turn (turn_below (S := fun _ => False) b67) (fun _ _ q => q)
                have D6' := (D6.turn (turn_below (S := fun _ => False) b67) (fun _ _ q => q)).take (n := n) rfl (by have := HQ.out; omega)
                have he : ps3.map Prod.fst = (ps.take n).map Prod.fst := by rw [← e3, List.map_take, List.map_take, HS.out.2.2.2.2.2]
                have fine3 : ∀ p ∈ ps3, p.1.Fine := fun p hp => fin3.1 p.1 (by rw [e3]; exact List.mem_map_of_mem hp)
                have l3 : ps3.length ≤ R.lim := by
                  have := congrArg List.length he
                  simp only [List.length_map, List.length_take] at this
                  unfold R.lim; omega
                have AL := hide' (And.intro (alike_eq ps3 (ps.take n) v8 (.slice sW n cW) _ _ _ D8' D6' he fine3 l3) (hb6.trans (b67.mono hb6.size)))
                clear fin3 e3 D8 D6 hb6 b7 ba b67 D8' D6' he fine3 l3 K6
                go_wp2_with fail
                refine AL.out.1.mono ?_
                rintro e w9 ⟨rfl, b9⟩
                have hb9 := hide' (AL.out.2.trans (b9.mono AL.out.2.size))
                clear AL b9
                go_wp2
                go_ret
                exact ⟨rfl, hb9.out⟩
            · simp only [Value.slice.injEq] at e1
              obtain ⟨rfl, _, rfl⟩ := e1
              clear h71 h72 h73 h74 h75 h76 hpl L1 D1 E1 hb1 t7 r2 b2 t2 L2 D2 hb2 ba hfin hflt hTk
              have HLn := hide' (drop_len TS k)
              have m1 : Hid (k + 1 + (TS.length - k) ≤ maxLen) := (show _ ≤ maxLen by unfold maxLen; omega)
              have m2 : Hid ((k + 1 + (TS.length - k)) * 40 ≤ 140737488355328) := (show _ ≤ 140737488355328 by omega)
              have HB := hide' (And.intro hwt (And.intro hlen (And.intro hpk (And.intro hl (And.intro hi hn)))))
              clear hwt hlen hpk hl hi hn z12 hc2 hii hki hk hkl hil
              by_cases hck : c7 = k
              · have HD := hide' (show ∀ (j : Nat) (u : Value), ((TS.drop k).flatMap cellsT)[j]? = some u → False from fun j u hj => by rw [List.drop_of_length_le (by omega)] at hj; simp at hj)
                go_wp2_with (first | (have G := E4; at_builtin; refine wpList_append_src rfl _ _ 40 rfl wr.heap.size 44 i2 _ 4 40 Tryz.underlying40 Ht.out.1 Ht.out.2.1 Ht.out.2.2.1 Ht.out.2.2.2 rfl (by decide) (.slice (some ⟨g, 0, none⟩) (k + 1) cp) _ _ rfl E4.out.1 _ _ _ ((TS.drop k).flatMap cellsT) rfl (fun q => by cases q) HLn.out (fun ad _ j u hj => (HD.out j u hj).elim) (flat4_one _) m1.out m2.out (by have := z2.out; have := E4.out.2.1.size; omega) ?_; intro v9 w9 r9 g9 o9; obtain ⟨x9, c9, rfl⟩ := row_form r9; have pb9 := end_pb E4.out.1 E4.out.2.2 g9; have tk9 := Tk.of_cells pb9; have y1 := tk9.c1; have y2 := tk9.c2; have q1 := tk9.f 1 (by decide); have q2 := tk9.f 2 (by decide); have E9 := hide' (And.intro r9 (And.intro (E4.out.2.1.grown g9 E4.out.2.1.size (fun j hj => (E4.out.1.lt j hj).1)) pb9)); clear r9 g9 o9 pb9 tk9) | ((fail_if_success (have G := E4)); at_builtin; refine wpList_append_lies _ rfl _ _ 40 rfl wr.heap.size 44 i2 _ 4 40 Tryz.underlying40 Ht.out.1 Ht.out.2.1 Ht.out.2.2.1 Ht.out.2.2.2 rfl (by decide) _ _ _ rfl (R2.out.1.alloc _) ⟨w2.heap.size + 1, 0, none⟩ 1 1 [.int .i8 5, .string ⟨#[101, 110, 100]⟩, .int .i64 el, .int .i64 ec] rfl rfl (four_at _ _ R2.out.2 _ _ _ _ _) (by simp [Value.oneCell']) (by decide) n1.out n2.out (by have := z2.out; simp; omega) _ rfl ?_; intro g cp w4 hrow4 hgrow4 hat4 hlt4; replace hgrow4 : ((w2.alloc (.cells #[.int .i64 40, .int .i64 0, .int .i64 0, .string ⟨#[]⟩] 26)).alloc (.cells #[.int .i8 5, .string ⟨#[101, 110, 100]⟩, .int .i64 el, .int .i64 ec] 44)).grownBy w4 (Value.slice x2 k c2).ownBlock := hgrow4; obtain ⟨bq, pb4⟩ := end_below KD.out.2.2.2.1 KD.out.2.2.2.2.1 hgrow4; have e4 := (KD.out.1.quiet bq).c0; have E4 := hide' (And.intro hrow4 (And.intro bq pb4)); clear hrow4 hgrow4 hat4 hlt4 bq pb4))
                obtain ⟨r9, b9, pb9⟩ := E9.out
                obtain ⟨bW, pbD, rW⟩ := end_world b9 z2.out pb9 r9 el ec
                generalize ((w9.setCell ⟨w2.heap.size, 1, none⟩ (.int .i64 el)).setCell ⟨w2.heap.size, 2, none⟩ (.int .i64 ec)) = WD at *
                obtain ⟨L1, D1, hb1, b2, r2, t7⟩ := KD.out
                obtain ⟨hfin, hflt, hTk⟩ := HF.out
                obtain ⟨hwt, hlen, hpk, hl, hi, hn⟩ := HB.out
                have hbD := hb1.trans (bW.mono hb1.size)
                have DD := D1.turn (turn_below (S := fun _ => False) bW) (fun _ _ q => q)
                have hsrc := src_end TS k HS.out.2.1 el ec (TS.drop k)
                have hZs : ∀ t ∈ (TS.take k ++ (5, ⟨#[101, 110, 100]⟩, el, ec) :: TS.drop k), t.2.1.size ≤ 1048576 := by
                  intro t ht
                  rcases List.mem_append.1 ht with q | q
                  · exact HS.out.1 t (List.mem_of_mem_take q)
                  · rcases List.mem_cons.1 q with rfl | q
                    · exact of_decide_eq_true rfl
                    · exact HS.out.1 t (List.mem_of_mem_drop q)
                have hZl : (TS.take k ++ (5, ⟨#[101, 110, 100]⟩, el, ec) :: TS.drop k).length = k + 1 + (TS.length - k) := by
                  rw [List.length_append, List.length_cons, List.length_drop, hTk]; omega
                have rZ : WD.ownsRow wr.heap.size 44 4 (.slice x9 (k + 1 + (TS.length - k)) c9) (TS.take k ++ (5, ⟨#[101, 110, 100]⟩, el, ec) :: TS.drop k).length ((TS.take k ++ (5, ⟨#[101, 110, 100]⟩, el, ec) :: TS.drop k).flatMap cellsT) := by
                  rw [hZl, List.flatMap_append, List.flatMap_cons]
                  have e : cellsT (5, ⟨#[101, 110, 100]⟩, el, ec) = [.int .i8 5, .string ⟨#[101, 110, 100]⟩, .int .i64 el, .int .i64 ec] := rfl
                  rw [e, ← List.append_assoc]
                  exact rW
                obtain ⟨Z, hZZ⟩ : ∃ Z, TS.take k ++ (5, ⟨#[101, 110, 100]⟩, el, ec) :: TS.drop k = Z := ⟨_, rfl⟩
                rw [hZZ] at hZl hZs hsrc rZ
                obtain ⟨xz, cz, ez, hcz, tz⟩ := toks_row rZ
                rw [hZl] at ez
                cases ez
                have hzl : Z.length < R.lim := by rw [hZl]; unfold R.lim; omega
                have okz : TkOk Z := ⟨by rw [hZl]; unfold R.lim; omega, fun t ht => by have := hZs t ht; unfold R.lim; omega⟩
                have hTz := H.out.2.2.2.1.below hbD
                have hcut := HS.out.2.2.1 k hkT Z (5, ByteArray.empty, el, ec) rfl hsrc (by rw [hZl]; omega)
                refine (decls_at Z (k + 1 + (TS.length - k)) hZl x9 c9 w.heap.size WD hcz okz tz hTz).mono ?_
                rintro e w6 ⟨d6, b6⟩
                unfold DeclsIs at d6
                have hb6 := hbD.trans (b6.mono hbD.size)
                cases bw
                · have hbad := hcut.2 (fun q => by have := hfin.2 q; cases this)
                  simp only [hbad.1] at d6
                  obtain ⟨fb, rfl, _, hF⟩ := d6
                  rw [hbad.2] at hF
                  have hF' : Flt fb 40 el ec ⟨#[]⟩ w6 := hF
                  have g6 := (hb6.cell (p := ⟨0, 0, none⟩) (lt_of_cell H.out.2.2.2.2)).trans H.out.2.2.2.2
                  have k6 := (b6.block _ (Array.getElem?_eq_some_iff.1 pbD).1).trans pbD
                  have K6 := hide' (And.intro hF' (And.intro g6 (And.intro k6 hb6)))
                  clear hbad hF hF' g6 k6 hb6 b6 hcut hcz okz tz hTz hbD pbD DD hzl hZl hfin hflt hTk hZZ rZ hZs hsrc r9 b9 pb9 bW rW L1 D1 hb1 b2 r2 t7 KD E9 y1 y2 q1 q2 hwt hlen hpk hi
                  go_wp2_with fail
                  obtain ⟨hF', g6, k6, hb6⟩ := K6.out
                  refine (told_flt fb 40 el ec rfl ⟨#[]⟩ w6 hF' g6).mono ?_
                  rintro e w7 ⟨rfl, b7⟩
                  have k7 := (b7.block _ (Array.getElem?_eq_some_iff.1 k6).1).trans k6
                  have zk := (Array.getElem?_eq_some_iff.1 k7).1
                  have al : ∀ o, (w7.alloc o).heap[w2.heap.size]? = some (.cells #[.int .i64 40, .int .i64 el, .int .i64 ec, .string ⟨#[]⟩] 26 (0, 0)) := fun o => (Below.heap_alloc _ _ _ zk).trans k7
                  have a0 : ∀ o, (w7.alloc o).cell? ⟨w2.heap.size, 0, none⟩ = some (.int .i64 40) := fun o => (Tk.of_cells (al o)).c0
                  have a1 : ∀ o, (w7.alloc o).cell? ⟨w2.heap.size, 1, none⟩ = some (.int .i64 el) := fun o => (Tk.of_cells (al o)).c1
                  have a2 : ∀ o, (w7.alloc o).cell? ⟨w2.heap.size, 2, none⟩ = some (.int .i64 ec) := fun o => (Tk.of_cells (al o)).c2
                  have a3 : ∀ o, (w7.alloc o).cell? ⟨w2.heap.size, 3, none⟩ = some (.string ⟨#[]⟩) := fun o => (Tk.of_cells (al o)).c3
                  have hb7 := hide' (hb6.trans (b7.mono hb6.size))
                  clear hF' g6 k6 hb6 b7 k7 zk al K6
                  go_wp2
                  go_ret
                  exact ⟨rfl, hb7.out.alloc hb7.out.size _⟩
                · have hok := hcut.1 (hfin.1 rfl)
                  rw [hflt] at hok
                  have fin3 := R.decls_fine hzl hok
                  simp only [hok] at d6
                  obtain ⟨ps3, v8, rfl, e3, D8⟩ := d6
                  have D6 := DD.turn (turn_below (S := fun _ => False) b6) (fun _ _ q => q)
                  have K6 := hide' (And.intro fin3 (And.intro e3 (And.intro D8 (And.intro D6 hb6))))
                  clear hok fin3 e3 D8 D6 hb6 b6 hcut hcz okz tz hTz hbD pbD DD hzl hZl hfin hflt hTk hZZ rZ hZs hsrc r9 b9 pb9 bW rW L1 D1 hb1 b2 r2 t7 KD E9 y1 y2 q1 q2 hwt hlen hpk hi
                  go_wp2_with fail
                  refine (told_nil w6).mono ?_
                  rintro e w7 ⟨rfl, b7⟩
                  unfold zfault
                  obtain ⟨fin3, e3, D8, D6, hb6⟩ := K6.out
                  have ba : Below w7.heap.size w7 (w7.alloc (.cells #[.int .i64 0, .int .i64 0, .int .i64 0, .string ⟨#[]⟩] 26)) := (Below.refl _ _).alloc (Nat.le_refl _) _
                  have b67 := b7.trans (ba.mono b7.size)
                  have D8' := D8.turn (turn_below (S := fun _ => False) b67) (fun _ _ q => q)
                  have D6' := (D6.turn (turn_below (S := fun _ => False) b67) (fun _ _ q => q)).take (n := n) rfl (by have := HQ.out; omega)
                  have he : ps3.map Prod.fst = (ps.take n).map Prod.fst := by rw [← e3, List.map_take, List.map_take, HS.out.2.2.2.2.2]
                  have fine3 : ∀ p ∈ ps3, p.1.Fine := fun p hp => fin3.1 p.1 (by rw [e3]; exact List.mem_map_of_mem hp)
                  have l3 : ps3.length ≤ R.lim := by
                    have := congrArg List.length he
                    simp only [List.length_map, List.length_take] at this
                    unfold R.lim; omega
                  have AL := hide' (And.intro (alike_eq ps3 (ps.take n) v8 (.slice sW n cW) _ _ _ D8' D6' he fine3 l3) (hb6.trans (b67.mono hb6.size)))
                  clear fin3 e3 D8 D6 hb6 b7 ba b67 D8' D6' he fine3 l3 K6
                  go_wp2_with fail
                  refine AL.out.1.mono ?_
                  rintro e w9 ⟨rfl, b9⟩
                  have hb9 := hide' (AL.out.2.trans (b9.mono AL.out.2.size))
                  clear AL b9
                  go_wp2
                  go_ret
                  exact ⟨rfl, hb9.out⟩
              · have hck' : ¬ k = c7 := fun q => hck q.symm
                go_wp2_with (first | (have G := E4; at_builtin; refine wpList_append_src rfl _ _ 40 rfl wr.heap.size 44 i2 _ 4 40 Tryz.underlying40 Ht.out.1 Ht.out.2.1 Ht.out.2.2.1 Ht.out.2.2.2 rfl (by decide) (.slice (some ⟨g, 0, none⟩) (k + 1) cp) _ _ rfl E4.out.1 _ _ _ ((TS.drop k).flatMap cellsT) rfl (fun q => by cases q) HLn.out (drop_cells (KD.out.2.2.2.2.2.below E4.out.2.1)) (flat4_one _) m1.out m2.out (by have := z2.out; have := E4.out.2.1.size; omega) ?_; intro v9 w9 r9 g9 o9; obtain ⟨x9, c9, rfl⟩ := row_form r9; have pb9 := end_pb E4.out.1 E4.out.2.2 g9; have tk9 := Tk.of_cells pb9; have y1 := tk9.c1; have y2 := tk9.c2; have q1 := tk9.f 1 (by decide); have q2 := tk9.f 2 (by decide); have E9 := hide' (And.intro r9 (And.intro (E4.out.2.1.grown g9 E4.out.2.1.size (fun j hj => (E4.out.1.lt j hj).1)) pb9)); clear r9 g9 o9 pb9 tk9) | ((fail_if_success (have G := E4)); at_builtin; refine wpList_append_lies _ rfl _ _ 40 rfl wr.heap.size 44 i2 _ 4 40 Tryz.underlying40 Ht.out.1 Ht.out.2.1 Ht.out.2.2.1 Ht.out.2.2.2 rfl (by decide) _ _ _ rfl (R2.out.1.alloc _) ⟨w2.heap.size + 1, 0, none⟩ 1 1 [.int .i8 5, .string ⟨#[101, 110, 100]⟩, .int .i64 el, .int .i64 ec] rfl rfl (four_at _ _ R2.out.2 _ _ _ _ _) (by simp [Value.oneCell']) (by decide) n1.out n2.out (by have := z2.out; simp; omega) _ rfl ?_; intro g cp w4 hrow4 hgrow4 hat4 hlt4; replace hgrow4 : ((w2.alloc (.cells #[.int .i64 40, .int .i64 0, .int .i64 0, .string ⟨#[]⟩] 26)).alloc (.cells #[.int .i8 5, .string ⟨#[101, 110, 100]⟩, .int .i64 el, .int .i64 ec] 44)).grownBy w4 (Value.slice x2 k c2).ownBlock := hgrow4; obtain ⟨bq, pb4⟩ := end_below KD.out.2.2.2.1 KD.out.2.2.2.2.1 hgrow4; have e4 := (KD.out.1.quiet bq).c0; have E4 := hide' (And.intro hrow4 (And.intro bq pb4)); clear hrow4 hgrow4 hat4 hlt4 bq pb4))
                obtain ⟨r9, b9, pb9⟩ := E9.out
                obtain ⟨bW, pbD, rW⟩ := end_world b9 z2.out pb9 r9 el ec
                generalize ((w9.setCell ⟨w2.heap.size, 1, none⟩ (.int .i64 el)).setCell ⟨w2.heap.size, 2, none⟩ (.int .i64 ec)) = WD at *
                obtain ⟨L1, D1, hb1, b2, r2, t7⟩ := KD.out
                obtain ⟨hfin, hflt, hTk⟩ := HF.out
                obtain ⟨hwt, hlen, hpk, hl, hi, hn⟩ := HB.out
                have hbD := hb1.trans (bW.mono hb1.size)
                have DD := D1.turn (turn_below (S := fun _ => False) bW) (fun _ _ q => q)
                have hsrc := src_end TS k HS.out.2.1 el ec (TS.drop k)
                have hZs : ∀ t ∈ (TS.take k ++ (5, ⟨#[101, 110, 100]⟩, el, ec) :: TS.drop k), t.2.1.size ≤ 1048576 := by
                  intro t ht
                  rcases List.mem_append.1 ht with q | q
                  · exact HS.out.1 t (List.mem_of_mem_take q)
                  · rcases List.mem_cons.1 q with rfl | q
                    · exact of_decide_eq_true rfl
                    · exact HS.out.1 t (List.mem_of_mem_drop q)
                have hZl : (TS.take k ++ (5, ⟨#[101, 110, 100]⟩, el, ec) :: TS.drop k).length = k + 1 + (TS.length - k) := by
                  rw [List.length_append, List.length_cons, List.length_drop, hTk]; omega
                have rZ : WD.ownsRow wr.heap.size 44 4 (.slice x9 (k + 1 + (TS.length - k)) c9) (TS.take k ++ (5, ⟨#[101, 110, 100]⟩, el, ec) :: TS.drop k).length ((TS.take k ++ (5, ⟨#[101, 110, 100]⟩, el, ec) :: TS.drop k).flatMap cellsT) := by
                  rw [hZl, List.flatMap_append, List.flatMap_cons]
                  have e : cellsT (5, ⟨#[101, 110, 100]⟩, el, ec) = [.int .i8 5, .string ⟨#[101, 110, 100]⟩, .int .i64 el, .int .i64 ec] := rfl
                  rw [e, ← List.append_assoc]
                  exact rW
                obtain ⟨Z, hZZ⟩ : ∃ Z, TS.take k ++ (5, ⟨#[101, 110, 100]⟩, el, ec) :: TS.drop k = Z := ⟨_, rfl⟩
                rw [hZZ] at hZl hZs hsrc rZ
                obtain ⟨xz, cz, ez, hcz, tz⟩ := toks_row rZ
                rw [hZl] at ez
                cases ez
                have hzl : Z.length < R.lim := by rw [hZl]; unfold R.lim; omega
                have okz : TkOk Z := ⟨by rw [hZl]; unfold R.lim; omega, fun t ht => by have := hZs t ht; unfold R.lim; omega⟩
                have hTz := H.out.2.2.2.1.below hbD
                have hcut := HS.out.2.2.1 k hkT Z (5, ByteArray.empty, el, ec) rfl hsrc (by rw [hZl]; omega)
                refine (decls_at Z (k + 1 + (TS.length - k)) hZl x9 c9 w.heap.size WD hcz okz tz hTz).mono ?_
                rintro e w6 ⟨d6, b6⟩
                unfold DeclsIs at d6
                have hb6 := hbD.trans (b6.mono hbD.size)
                cases bw
                · have hbad := hcut.2 (fun q => by have := hfin.2 q; cases this)
                  simp only [hbad.1] at d6
                  obtain ⟨fb, rfl, _, hF⟩ := d6
                  rw [hbad.2] at hF
                  have hF' : Flt fb 40 el ec ⟨#[]⟩ w6 := hF
                  have g6 := (hb6.cell (p := ⟨0, 0, none⟩) (lt_of_cell H.out.2.2.2.2)).trans H.out.2.2.2.2
                  have k6 := (b6.block _ (Array.getElem?_eq_some_iff.1 pbD).1).trans pbD
                  have K6 := hide' (And.intro hF' (And.intro g6 (And.intro k6 hb6)))
                  clear hbad hF hF' g6 k6 hb6 b6 hcut hcz okz tz hTz hbD pbD DD hzl hZl hfin hflt hTk hZZ rZ hZs hsrc r9 b9 pb9 bW rW L1 D1 hb1 b2 r2 t7 KD E9 y1 y2 q1 q2 hwt hlen hpk hi
                  go_wp2_with fail
                  obtain ⟨hF', g6, k6, hb6⟩ := K6.out
                  refine (told_flt fb 40 el ec rfl ⟨#[]⟩ w6 hF' g6).mono ?_
                  rintro e w7 ⟨rfl, b7⟩
                  have k7 := (b7.block _ (Array.getElem?_eq_some_iff.1 k6).1).trans k6
                  have zk := (Array.getElem?_eq_some_iff.1 k7).1
                  have al : ∀ o, (w7.alloc o).heap[w2.heap.size]? = some (.cells #[.int .i64 40, .int .i64 el, .int .i64 ec, .string ⟨#[]⟩] 26 (0, 0)) := fun o => (Below.heap_alloc _ _ _ zk).trans k7
                  have a0 : ∀ o, (w7.alloc o).cell? ⟨w2.heap.size, 0, none⟩ = some (.int .i64 40) := fun o => (Tk.of_cells (al o)).c0
                  have a1 : ∀ o, (w7.alloc o).cell? ⟨w2.heap.size, 1, none⟩ = some (.int .i64 el) := fun o => (Tk.of_cells (al o)).c1
                  have a2 : ∀ o, (w7.alloc o).cell? ⟨w2.heap.size, 2, none⟩ = some (.int .i64 ec) := fun o => (Tk.of_cells (al o)).c2
                  have a3 : ∀ o, (w7.alloc o).cell? ⟨w2.heap.size, 3, none⟩ = some (.string ⟨#[]⟩) := fun o => (Tk.of_cells (al o)).c3
                  have hb7 := hide' (hb6.trans (b7.mono hb6.size))
                  clear hF' g6 k6 hb6 b7 k7 zk al K6
                  go_wp2
                  go_ret
                  exact ⟨rfl, hb7.out.alloc hb7.out.size _⟩
                · have hok := hcut.1 (hfin.1 rfl)
                  rw [hflt] at hok
                  have fin3 := R.decls_fine hzl hok
                  simp only [hok] at d6
                  obtain ⟨ps3, v8, rfl, e3, D8⟩ := d6
                  have D6 := DD.turn (turn_below (S := fun _ => False) b6) (fun _ _ q => q)
                  have K6 := hide' (And.intro fin3 (And.intro e3 (And.intro D8 (And.intro D6 hb6))))
                  clear hok fin3 e3 D8 D6 hb6 b6 hcut hcz okz tz hTz hbD pbD DD hzl hZl hfin hflt hTk hZZ rZ hZs hsrc r9 b9 pb9 bW rW L1 D1 hb1 b2 r2 t7 KD E9 y1 y2 q1 q2 hwt hlen hpk hi
                  go_wp2_with fail
                  refine (told_nil w6).mono ?_
                  rintro e w7 ⟨rfl, b7⟩
                  unfold zfault
                  obtain ⟨fin3, e3, D8, D6, hb6⟩ := K6.out
                  have ba : Below w7.heap.size w7 (w7.alloc (.cells #[.int .i64 0, .int .i64 0, .int .i64 0, .string ⟨#[]⟩] 26)) := (Below.refl _ _).alloc (Nat.le_refl _) _
                  have b67 := b7.trans (ba.mono b7.size)
                  have D8' := D8.turn (turn_below (S := fun _ => False) b67) (fun _ _ q => q)
                  have D6' := (D6.turn (turn_below (S := fun _ => False) b67) (fun _ _ q => q)).take (n := n) rfl (by have := HQ.out; omega)
                  have he : ps3.map Prod.fst = (ps.take n).map Prod.fst := by rw [← e3, List.map_take, List.map_take, HS.out.2.2.2.2.2]
                  have fine3 : ∀ p ∈ ps3, p.1.Fine := fun p hp => fin3.1 p.1 (by rw [e3]; exact List.mem_map_of_mem hp)
                  have l3 : ps3.length ≤ R.lim := by
                    have := congrArg List.length he
                    simp only [List.length_map, List.length_take] at this
                    unfold R.lim; omega
                  have AL := hide' (And.intro (alike_eq ps3 (ps.take n) v8 (.slice sW n cW) _ _ _ D8' D6' he fine3 l3) (hb6.trans (b67.mono hb6.size)))
                  clear fin3 e3 D8 D6 hb6 b7 ba b67 D8' D6' he fine3 l3 K6
                  go_wp2_with fail
                  refine AL.out.1.mono ?_
                  rintro e w9 ⟨rfl, b9⟩
                  have hb9 := hide' (AL.out.2.trans (b9.mono AL.out.2.size))
                  clear AL b9
                  go_wp2
                  go_ret
                  exact ⟨rfl, hb9.out⟩
end Go.Proofs.YtfgblchnnhdlnaaGreatDoor
