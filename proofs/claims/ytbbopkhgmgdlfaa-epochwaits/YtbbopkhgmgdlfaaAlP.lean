import Derived.Test.YtbbopkhgmgdlfaaEpA
import Derived.Test.YtbbopkhgmgdlfaaOwnT
set_option linter.unusedVariables false
set_option linter.unusedSimpArgs false
namespace Go.Proofs.Ytbbopkhgmgdlfaa
open Go.RowKit
namespace A
open M F
/-- who has entered -/
def ent (es : List Bool) (k j : Nat) : Bool := decide (j < k) && es.getD j false
/-- the words: who has entered, the epoch -/
def mw (es : List Bool) (n k : Nat) (q : Int) : List Int := ((List.range n).map fun j => if ent es k j then q else 0) ++ [q]
theorem mw_len (es : List Bool) (n k : Nat) (q : Int) : (mw es n k q).length = n + 1 := by simp [mw]
theorem mw_get {es : List Bool} {n k j : Nat} {q : Int} (h : j < n) : (mw es n k q)[j]? = some (if ent es k j then q else 0) := by
  unfold mw
  rw [List.getElem?_append_left (by simpa using h), List.getElem?_map, List.getElem?_range h]
  rfl
theorem mw_at {es : List Bool} {n k j : Nat} {q : Int} (h : j < n) : (mw es n k q).getD j 0 = if ent es k j then q else 0 := by rw [List.getD, mw_get h]; rfl
theorem mw_get_end {es : List Bool} {n k : Nat} {q : Int} : (mw es n k q)[n]? = some q := by
  unfold mw
  rw [List.getElem?_append_right (by simp)]
  simp
theorem mw_end {es : List Bool} {n k : Nat} {q : Int} : (mw es n k q).getD n 0 = q := by rw [List.getD, mw_get_end]; rfl
theorem mw_out {es : List Bool} {n k j : Nat} {q : Int} (h : n < j) : (mw es n k q)[j]? = none := List.getElem?_eq_none (by rw [mw_len]; omega)
theorem mw_congr {es : List Bool} {n k k' : Nat} {q : Int} (h : ∀ j, j < n → ent es k j = ent es k' j) : mw es n k q = mw es n k' q := by
  unfold mw
  congr 1
  apply List.map_congr_left
  intro j hj
  rw [h j (by simpa using hj)]
theorem ent_self {es : List Bool} {k : Nat} (he : es.getD k false = true) : ent es (k + 1) k = true := by
  unfold ent
  rw [he, decide_eq_true (Nat.lt_succ_self k)]
  rfl
theorem ent_ne {es : List Bool} {k j : Nat} (h : j ≠ k) : ent es (k + 1) j = ent es k j := by
  unfold ent
  rw [show decide (j < k + 1) = decide (j < k) from decide_eq_decide.2 (by omega)]
theorem mw_set {es : List Bool} {n k : Nat} {q : Int} (h : k < n) (he : es.getD k false = true) : (mw es n k q).set k q = mw es n (k + 1) q := by
  apply List.ext_getElem?
  intro j
  by_cases hj : j = k
  · subst hj
    rw [List.getElem?_set_self (by rw [mw_len]; omega), mw_get h, ent_self he]
    rfl
  · rw [List.getElem?_set_ne (fun z => hj z.symm)]
    by_cases h1 : j < n
    · rw [mw_get h1, mw_get h1, ent_ne hj]
    · by_cases h2 : j = n
      · subst h2; rw [mw_get_end, mw_get_end]
      · rw [mw_out (by omega), mw_out (by omega)]
theorem mw_skip {es : List Bool} {n k : Nat} {q : Int} (he : es.getD k false = false) : mw es n (k + 1) q = mw es n k q := mw_congr (fun j _ => by
  by_cases e : j = k
  · subst e; unfold ent; rw [he]; simp
  · exact ent_ne e)
theorem mw_full {es : List Bool} {n k : Nat} {q : Int} (h : es.length ≤ k) : mw es n k q = mw es n n q := mw_congr (fun j hj => by
  unfold ent
  by_cases e : j < es.length
  · rw [decide_eq_true (show j < k by omega), decide_eq_true hj]
  · rw [show es.getD j false = false by rw [List.getD, List.getElem?_eq_none (by omega)]; rfl]; simp)
theorem mw_zero (es : List Bool) (n : Nat) (q : Int) : mw es n 0 q = List.replicate n 0 ++ [q] := by
  unfold mw
  congr 1
  apply List.ext_getElem?
  intro j
  simp [List.getElem?_replicate, ent]
  by_cases h : j < n
  · rw [List.getElem?_range h, if_pos h]; rfl
  · rw [if_neg h, List.getElem?_eq_none (by simpa using h)]; rfl
/-- the epoch's numbers -/
def Fine (q : Int) : Prop := 2 ≤ q ∧ q ≤ 1000001
theorem mw_er {es : List Bool} {n k j : Nat} {q : Int} (hq : Fine q) (h : j ≤ n) : er (mw es n k q) (j : Nat) = 0 ∧ std (mw es n k q) (j : Nat) = (mw es n k q).getD j 0 := by
  refine er_ok (by rw [mw_len]; omega) ?_
  unfold Fine at hq
  unfold P
  by_cases hj : j < n
  · rw [mw_at hj]; split <;> omega
  · obtain rfl : j = n := by omega
    rw [mw_end]; omega
theorem good_of {ws : List Int} {a : Int} (h : er ws a = 0) : good ws a = true := decide_eq_true h
variable {w0 : World} {x n sl gb : Nat} {es : List Bool} {k : Nat} {q : Int} {D : Nat → Prop} {tr wt : List Ac} {ao : Option Addr} {cap : Nat} {W W' : World} {si nx : Int}
/-- what a slot holds lets the period go -/
theorem lts_mw {j : Nat} (h : j < n) : lts q ((mw es n k q).getD j 0) = true := by
  rw [mw_at h]
  refine decide_eq_true ?_
  split
  · exact .inr (Int.le_refl _)
  · exact .inl rfl
theorem look_al (h : An ⟨w0, x, n, 0, n, sl, gb⟩ D (mw es n n q) tr 0 q (k : Nat) wt ao cap W) (hq : Fine q) (hk : k < n) (hn : n ≤ 16) (hl : tr.length < 1000000) :
    Calls Try.prog 24 #[.pointer (some ⟨gb, 0, none⟩)] W fun r w' => r = .returned (.bool (decide (k + 1 = n))) ∧ ∃ D', An ⟨w0, x, n, 0, n, sl, gb⟩ D' (mw es n n q) (tr ++ [⟨1, (k : Nat), (mw es n n q).getD k 0, 0, true⟩]) 0 q ((k + 1 : Nat) : Int) wt ao cap w' := by
  obtain ⟨e1, e2⟩ := mw_er (es := es) (n := n) (k := n) hq (show k ≤ n by omega)
  refine (graceL_any (b := gb) (x := x) (e := n) (f := 0) (n := n) k k (by omega) (by omega) h.mem h.gr hk hn (by omega)).mono fun r w' ⟨hr, hb⟩ => ?_
  have hx : nxt q ((mw es n n q).getD k 0) k = k + 1 := if_pos (lts_mw hk)
  rw [e2, hx] at hr
  rw [e2, hx, good_of e1, bd_ok e1] at hb
  exact ⟨hr, (An.gra h hb).1⟩
theorem ready_al (h : An ⟨w0, x, n, 0, n, sl, gb⟩ D (mw es n n q) tr 0 q (k : Nat) wt ao cap W) (hk : k < n) :
    Calls Try.prog 28 #[.pointer (some ⟨gb, 0, none⟩)] W fun r w' => r = .returned (.bool true) ∧ An ⟨w0, x, n, 0, n, sl, gb⟩ D (mw es n n q) tr 0 q (k : Nat) wt ao cap w' := by
  refine (ready_at (b := gb) (x := x) (e := n) (f := 0) (n := n) k k (by omega) h.mem h.gr hk (by rw [mw_len]; omega)).mono fun r w' ⟨hr, hb⟩ => ⟨?_, h.below hb⟩
  rw [hr]
  unfold grdy
  rw [show isl n (k : Int) = true from decide_eq_true (by omega), Int.toNat_natCast, Nat.zero_add, lts_mw hk]
  rfl
theorem at_al (h : An ⟨w0, x, n, 0, n, sl, gb⟩ D (mw es n n q) tr 0 q (k : Nat) wt ao cap W) (hk : k < n) :
    Calls Try.prog 27 #[.pointer (some ⟨gb, 0, none⟩)] W fun r w' => r = .returned (.int .i64 (k : Nat)) ∧ An ⟨w0, x, n, 0, n, sl, gb⟩ D (mw es n n q) tr 0 q (k : Nat) wt ao cap w' := by
  refine (at_any (b := gb) (x := x) (e := n) (f := 0) (n := n) h.gr).mono fun r w' ⟨hr, z, hz⟩ => ⟨?_, by rw [hz]; exact h.drewN z⟩
  rw [hr]
  unfold gat
  rw [if_pos (show isl n (k : Int) = true from decide_eq_true (by omega))]
theorem over_al {ws : List Int} {bad : Nat} (h : An ⟨w0, x, n, 0, n, sl, gb⟩ D ws tr bad q (n : Nat) wt ao cap W) (hn : 1 ≤ n) :
    Calls Try.prog 24 #[.pointer (some ⟨gb, 0, none⟩)] W fun r w' => r = .returned (.bool true) ∧ ∃ D', An ⟨w0, x, n, 0, n, sl, gb⟩ D' ws tr bad q (n : Nat) wt ao cap w' :=
  (graceN_any (b := gb) (x := x) (e := n) (f := 0) (n := n) h.mem h.gr hn).mono fun r w' ⟨hr, hb⟩ => ⟨hr, (An.gra h hb).1⟩
theorem leave_al (h : An ⟨w0, x, n, 0, n, sl, gb⟩ D (mw es n n q) tr 0 q nx wt ao cap W) (hq : Fine q) (hk : k < n) (hn : n ≤ 16) (hl : tr.length < 1000000) :
    Calls Try.prog 29 #[.pointer (some ⟨sl, 0, none⟩), .int .i64 (k : Nat)] W fun r w' => r = .returned (.int .i64 0) ∧ ∃ D' ws, An ⟨w0, x, n, 0, n, sl, gb⟩ D' ws (tr ++ [⟨2, (k : Nat), 0, (mw es n n q).getD k 0, true⟩]) 0 q nx wt ao cap w' := by
  obtain ⟨e1, e2⟩ := mw_er (es := es) (n := n) (k := n) hq (show k ≤ n by omega)
  refine (leave_ok (b := sl) (x := x) (e := n) (f := 0) (n := n) k k (by omega) (by omega) h.sl h.mem (by omega) hk).mono fun r w' ⟨hr, hb⟩ => ?_
  rw [e1] at hr
  rw [e2, good_of e1, bd_ok e1] at hb
  obtain ⟨⟨D', h'⟩, _⟩ := An.to h hb
  exact ⟨hr, D', _, h'⟩
/-- a section enters: two steps -/
theorem sec0_al {sb : Nat} (h : An ⟨w0, x, n, 0, n, sl, gb⟩ D (mw es n k q) tr 0 si nx wt ao cap W) (hs : Sc sb x n 0 n k 0 0 W) (hb : w0.heap.size ≤ sb) (hq : Fine q) (hl : tr.length < 1000000) :
    Calls Try.prog 26 #[.pointer (some ⟨sb, 0, none⟩)] W fun r w' => r = .returned (.bool false) ∧ ∃ D', An ⟨w0, x, n, 0, n, sl, gb⟩ D' (mw es n k q) (tr ++ [⟨1, (n : Nat), q, 0, true⟩]) 0 si nx wt ao cap w' ∧ Sc sb x n 0 n k 1 q w' := by
  obtain ⟨e1, e2⟩ := mw_er (es := es) (n := n) (k := k) hq (Nat.le_refl n)
  refine (step0_any (b := sb) (x := x) (e := n) (f := 0) (n := n) h.mem hs (by omega)).mono fun r w' ⟨hr, hB⟩ => ⟨hr, ?_⟩
  rw [e2, mw_end, good_of e1, bd_ok e1] at hB
  exact An.sec h hs hb hB
theorem sec1_al {sb : Nat} (h : An ⟨w0, x, n, 0, n, sl, gb⟩ D (mw es n k q) tr 0 si nx wt ao cap W) (hs : Sc sb x n 0 n k 1 q W) (hb : w0.heap.size ≤ sb) (hq : Fine q) (hk : k < n) (hn : n ≤ 16) (he : es.getD k false = true) (hl : tr.length < 1000000) :
    Calls Try.prog 26 #[.pointer (some ⟨sb, 0, none⟩)] W fun r w' => r = .returned (.bool true) ∧ ∃ D', An ⟨w0, x, n, 0, n, sl, gb⟩ D' (mw es n (k + 1) q) (tr ++ [⟨2, (k : Nat), q, 0, true⟩]) 0 si nx wt ao cap w' := by
  obtain ⟨e1, e2⟩ := mw_er (es := es) (n := n) (k := k) hq (show k ≤ n by omega)
  refine (step1_any (b := sb) (x := x) (e := n) (f := 0) (n := n) k (by omega) (by omega) h.mem hs (by omega)).mono fun r w' ⟨hr, hB⟩ => ⟨hr, ?_⟩
  rw [e2, mw_at hk, if_neg (show ¬ ent es k k = true by unfold ent; simp), good_of e1, bd_ok e1, put_ok e1, mw_set hk he] at hB
  obtain ⟨D', h', _⟩ := An.sec h hs hb hB
  exact ⟨D', h'⟩
/-- the row of entries grows -/
theorem An.grow {c : Cst} {ws : List Int} {bad gg cap' : Nat} {zs : List Ac} (h : An c D ws tr bad si nx wt ao cap W) (hr : W'.ownsRow c.w0.heap.size 75 5 (.slice (some ⟨gg, 0, none⟩) (wt.length + zs.length) cap') (wt.length + zs.length) (wt.flatMap Ac.cells ++ zs.flatMap Ac.cells)) (t : Turn (At ao) W W') (hg : At ao gg ∨ W.heap.size ≤ gg) : An c D ws tr bad si nx (wt ++ zs) (some ⟨gg, 0, none⟩) cap' W' := by
  refine ⟨h.mem.kept t (fun j hj z => h.dis j z hj), h.sl.kept t (fun z => ?_), h.gr.kept t (fun z => ?_), by rw [List.length_append, List.flatMap_append]; exact hr, fun j hj z => ?_, h.bel.trans (t.below (fun j hj => (row_atk h.row hj).1) h.bel.size), h.lg⟩
  · obtain ⟨_, _, cs', h'⟩ := row_atk h.row z
    exact cells_ne h.sl h' (by decide) rfl
  · obtain ⟨_, _, cs', h'⟩ := row_atk h.row z
    exact cells_ne h.gr h' (by decide) rfl
  · obtain ⟨a, ha, rfl⟩ := hj
    cases ha
    rcases hg with y | y
    · exact h.dis _ y z
    · have := (h.mem.lo z).2
      simp only at this y
      omega
theorem An.grow1 {c : Cst} {ws : List Int} {bad gg cap' L : Nat} (a1 v1 o1 k1 : Int) (h : An c D ws tr bad si nx wt ao cap W) (hL : wt.length = L) (hr : W'.ownsRow c.w0.heap.size 75 5 (.slice (some ⟨gg, 0, none⟩) (L + 1) cap') (L + 1) (wt.flatMap Ac.cells ++ [.int .i8 k1, .int .i64 a1, .int .i64 v1, .int .i64 o1, .bool true])) (t : Turn (At ao) W W') (hg : At ao gg ∨ W.heap.size ≤ gg) : An c D ws tr bad si nx (wt ++ [⟨k1, a1, v1, o1, true⟩]) (some ⟨gg, 0, none⟩) cap' W' := by
  subst hL
  exact An.grow h (zs := [⟨k1, a1, v1, o1, true⟩]) hr t hg
theorem An.grow2 {c : Cst} {ws : List Int} {bad gg cap' L : Nat} (k1 a1 v1 o1 k2 a2 v2 o2 : Int) (h : An c D ws tr bad si nx wt ao cap W) (hL : wt.length = L) (hr : W'.ownsRow c.w0.heap.size 75 5 (.slice (some ⟨gg, 0, none⟩) (L + 2) cap') (L + 2) (wt.flatMap Ac.cells ++ [.int .i8 k1, .int .i64 a1, .int .i64 v1, .int .i64 o1, .bool true, .int .i8 k2, .int .i64 a2, .int .i64 v2, .int .i64 o2, .bool true])) (t : Turn (At ao) W W') (hg : At ao gg ∨ W.heap.size ≤ gg) : An c D ws tr bad si nx (wt ++ [⟨k1, a1, v1, o1, true⟩, ⟨k2, a2, v2, o2, true⟩]) (some ⟨gg, 0, none⟩) cap' W' := by
  subst hL
  exact An.grow h (zs := [⟨k1, a1, v1, o1, true⟩, ⟨k2, a2, v2, o2, true⟩]) hr t hg
/-- some things more in a row -/
theorem wpList_moreN {t e m bytes : Nat} {z : Value} (ht : Try.prog.underlying t = some (.slice e)) (hinf : (Try.prog.info? e).map (fun i => (i.zero, i.size, i.bytes)) = some (some z, m, bytes)) (hz : z.cells.size = m) (hm : 0 < m) (hby : bytes ≤ 40) (w : World) {ops : Array Oper} {rest : List Oper} {o : Oper} {a : Act} {Q : Exit → Act → World → Prop} (hgd : o.guard = none) (s y : Operand)
    (ho : o.op = .call { callee := .builtin .append, args := #[s, y], argTypes := #[t, t] }) {B : Nat} {ro : Option Addr} {rc k : Nat} {xs : List Value} (hrow : w.ownsRow B e m (.slice ro k rc) k xs) (hl : k < 3000000000000) (hB : B ≤ w.heap.size) (nn : Nat) (hnn : 0 < nn ∧ nn ≤ 100) (cs : List Value) (hcl : cs.length = nn * m) (h1 : ∀ u ∈ cs, u.oneCell' = true) (c : Nat) (hs : a.eval s = .slice ro k rc) (hx : a.eval y = .slice (some ⟨w.heap.size, 0, none⟩) nn c)
    (hk : ∀ gg cap' w1, w1.ownsRow B e m (.slice (some ⟨gg, 0, none⟩) (k + nn) cap') (k + nn) (xs ++ cs) → Turn (At ro) w w1 → (At ro gg ∨ w.heap.size ≤ gg) → wpList Try.prog ops Q rest (a.put o.dst (.slice (some ⟨gg, 0, none⟩) (k + nn) cap')) w1) :
    wpList Try.prog ops Q (o :: rest) a (w.alloc (.cells cs.toArray e)) := by
  obtain ⟨i0, hi0, hz0, hz1, hz2⟩ := info_parts hinf
  refine wpList_append_lies _ hgd s y t ho B e i0 _ m bytes ht hi0 hz0 hz1 hz2 hz hm _ k xs hs (World.ownsRow.alloc hrow _) ⟨w.heap.size, 0, none⟩ nn c cs hx hcl (fun j u hj => World.news_of_block (heap_alloc_new w (.cells cs.toArray e)) j u (by simpa using hj)) h1 hnn.1 (by unfold maxLen; omega) (Nat.le_trans (Nat.mul_le_mul_left _ hby) (by omega)) (by simp; omega) (w.heap.size + 1) (by simp) ?_
  intro gg cap' w1 hown1 hgrow hat hlt
  have t0 : Turn (At ro) w w1 := ((Turn.refl _ w).alloc _).grown hgrow (fun k hk _ => own_at hk)
  refine hk gg cap' w1 hown1 t0 ?_
  rcases hat with q | q
  · exact .inl (own_at q)
  · exact .inr (by omega)
/-- a row that was built -/
theorem row_built (w : World) (cs : List Value) (nn e m B : Nat) (hcl : cs.length = nn * m) (hn : nn ≤ 100) (hB : B ≤ w.heap.size) : (w.alloc (.cells cs.toArray e)).ownsRow B e m (.slice (some ⟨w.heap.size, 0, none⟩) nn nn) nn cs :=
  ⟨hcl, .inr ⟨w.heap.size, nn, cs.toArray, rfl, hB, heap_alloc_new _ _, Nat.le_refl _, by unfold maxLen; omega, by simpa using hcl, by rw [List.take_of_length_le (by simp; omega)]⟩⟩
theorem An.first {c : Cst} {ws : List Int} {bad : Nat} (h : An c D ws tr bad si nx [] none 0 W) (zs : List Ac) (hz : zs.length ≤ 100) : An c D ws tr bad si nx zs (some ⟨W.heap.size, 0, none⟩) zs.length (W.alloc (.cells (zs.flatMap Ac.cells).toArray 75)) := by
  have hb : Below W.heap.size W (W.alloc (.cells (zs.flatMap Ac.cells).toArray 75)) := (Below.refl _ _).alloc (Nat.le_refl _) _
  have h' := h.below hb
  refine ⟨h'.mem, h'.sl, h'.gr, row_built W _ _ 75 5 _ (by clear hz hb h' h; induction zs with | nil => rfl | cons a r ih => simp [Ac.cells] at ih ⊢; omega) hz h.bel.size, fun j hj z => ?_, h'.bel, h'.lg⟩
  obtain ⟨a, ha, rfl⟩ := hj
  cases ha
  have := (h.mem.lo z).2
  simp only at this
  omega
end A
end Go.Proofs.Ytbbopkhgmgdlfaa
