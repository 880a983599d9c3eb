import Derived.Test.YtdhmommfmmiieaaApa
import Derived.Test.YtdhmommfmmiieaaRw
import Derived.Test.YtdhmommfmmiieaaApp
import Derived.Test.YtdhmommfmmiieaaClL
import Derived.ProofKit
import Derived.Deep.RegionLaw
set_option linter.unusedVariables false
set_option linter.unusedSimpArgs false
namespace Go.Proofs.Ytdhmommfmmiieaa
open Go.RowKit Go.Maps
namespace I
/-- what With leaves: the row is what it was, or new -/
def WithIs (B : Nat) (ao : Option Addr) (ys : List Int) (w : World) (e : Ending) (w' : World) : Prop := ∃ ao' cap', e = .returned (.slice ao' ys.length cap') ∧ RowI B ao' cap' ys w' ∧ Turn (At ao) w w' ∧ (ao' = ao ∨ ∃ g, ao' = some ⟨g, 0, none⟩ ∧ w.heap.size ≤ g)
theorem isIn_step (ys : List Int) (k : Nat) (z v : Int) (hz : ys[k]? = some z) : isIn (ys.take (k + 1)) v = (isIn (ys.take k) v || decide (z = v)) := by
  rw [List.take_add_one, hz]
  by_cases h1 : v ∈ ys.take k
  · rw [isIn_yes h1, isIn_yes (List.mem_append_left _ h1)]; rfl
  · rw [isIn_no h1]
    by_cases h2 : z = v
    · subst h2; rw [isIn_yes (List.mem_append_right _ (by simp))]; simp
    · rw [isIn_no (fun q => by
        rcases List.mem_append.1 q with q | q
        · exact h1 q
        · simp at q; exact h2 q.symm)]
      simp [h2]
end I
end Go.Proofs.Ytdhmommfmmiieaa
set_option linter.unusedVariables false
set_option linter.unusedSimpArgs false
namespace Go.Proofs.Ytdhmommfmmiieaa
open Go.RowKit Go.Maps
namespace I
/-- a table of rows that can be read; none of its rows lies in a block of S -/
def Tbl (to : Option Addr) (tbl : List (List Int)) (S : Nat → Prop) (w : World) : Prop := tbl = [] ∨ ∃ b off, to = some ⟨b, off, none⟩ ∧ b < w.heap.size ∧ ¬ S b ∧ ∀ i row, tbl[i]? = some row → ∃ ro rc, w.cell? ⟨b, off + i, none⟩ = some (.slice ro row.length rc) ∧ (row.length ≤ rc ∧ (ro = none → rc = 0)) ∧ Ints ro row w ∧ (row ≠ [] → ∀ b off, ro = some ⟨b, off, none⟩ → ¬ S b ∧ b < w.heap.size)
theorem Tbl.turn {to : Option Addr} {tbl : List (List Int)} {S S' : Nat → Prop} {w w' : World} (h : Tbl to tbl S w) (t : Turn S' w w') (hS : ∀ j, j < w.heap.size → S' j → S j) : Tbl to tbl S w' := by
  rcases h with h | ⟨b, off, h1, h2, h3, h4⟩
  · exact .inl h
  · refine .inr ⟨b, off, h1, Nat.lt_of_lt_of_le h2 t.size, h3, fun i row q => ?_⟩
    obtain ⟨ro, rc, c, hl, hI, hn⟩ := h4 i row q
    exact ⟨ro, rc, (t.cell (p := ⟨b, off + i, none⟩) h2 (fun q => h3 (hS b h2 q))).trans c, hl, hI.turn t (fun hne b off e q => (hn hne b off e).1 (hS b (hn hne b off e).2 q)), fun hne b off e => ⟨(hn hne b off e).1, Nat.lt_of_lt_of_le (hn hne b off e).2 t.size⟩⟩
theorem Tbl.at {to : Option Addr} {tbl : List (List Int)} {S : Nat → Prop} {w : World} (h : Tbl to tbl S w) {i : Nat} {row : List Int} (q : tbl[i]? = some row) : ∃ b off ro rc, to = some ⟨b, off, none⟩ ∧ b < w.heap.size ∧ w.cell? ⟨b, off + i, none⟩ = some (.slice ro row.length rc) ∧ (row.length ≤ rc ∧ (ro = none → rc = 0)) ∧ Ints ro row w ∧ (row ≠ [] → ∀ b off, ro = some ⟨b, off, none⟩ → ¬ S b ∧ b < w.heap.size) := by
  rcases h with rfl | ⟨b, off, h1, h2, h3, h4⟩
  · simp at q
  · obtain ⟨ro, rc, c, hl, hI, hn⟩ := h4 i row q
    exact ⟨b, off, ro, rc, h1, h2, c, hl, hI, hn⟩
/-- the next ones of a number by a table -/
def nx (tbl : List (List Int)) (x : Int) : List Int := if 0 ≤ x then (tbl[x.toNat]?).getD [] else []
theorem nx_neg (tbl : List (List Int)) (x : Int) (h : x < 0) : nx tbl x = [] := by unfold nx; rw [if_neg (by omega)]
theorem nx_far (tbl : List (List Int)) (x : Int) (h : (tbl.length : Int) ≤ x) : nx tbl x = [] := by
  unfold nx
  split
  · rw [List.getElem?_eq_none (by omega)]; rfl
  · rfl
theorem nx_at (tbl : List (List Int)) (i : Nat) (row : List Int) (h : tbl[i]? = some row) : nx tbl (i : Int) = row := by
  unfold nx
  rw [if_pos (by omega), Int.toNat_natCast, h]; rfl
/-- what the document's Close leaves -/
def RefIs (tbl : List (List Int)) (fr : List Int) (w : World) (e : Ending) (w' : World) : Prop := ∃ n ao cap so scap, (Bf.st (nx tbl) fr n).length = n ∧ e = .returned (.tuple #[.slice ao n cap, .slice so n scap]) ∧ RowI w.heap.size ao cap (Bf.st (nx tbl) fr n) w' ∧ RowI w.heap.size so scap (Bf.st (nx tbl) fr n) w' ∧ Below w.heap.size w w'
/-- the state of its loop -/
def RMid (tbl : List (List Int)) (fr : List Int) (w : World) (n : Nat) (ao : Option Addr) (cap : Nat) (so : Option Addr) (scap : Nat) (wx : World) : Prop :=
  RowI w.heap.size ao cap (Bf.st (nx tbl) fr n) wx ∧ RowI w.heap.size so scap ((Bf.st (nx tbl) fr n).take n) wx ∧ Below w.heap.size w wx ∧ n ≤ (Bf.st (nx tbl) fr n).length ∧ (∀ j, At so j → ¬ At ao j)
theorem st_take {F : Int → List Int} {fr : List Int} {n : Nat} {k : Int} (hk : (Bf.st F fr n)[n]? = some k) : (Bf.st F fr (n + 1)).take (n + 1) = (Bf.st F fr n).take n ++ [k] ∧ n + 1 ≤ (Bf.st F fr (n + 1)).length := by
  have hst := Bf.st_some (F := F) (fr := fr) hk
  have hpre := Bf.add_prefix (Bf.st F fr n) (F k)
  have lx : n < (Bf.st F fr n).length := (List.getElem?_eq_some_iff.1 hk).1
  constructor
  · rw [hst, List.take_add_one, Bf.getElem?_prefix hpre hk]
    obtain ⟨r, hr⟩ := hpre
    rw [← hr, List.take_append_of_le_length (by omega)]
    rfl
  · rw [hst]; have := Bf.add_len (Bf.st F fr n) (F k); omega
theorem below_of {B : Nat} {w w' : World} {S : Nat → Prop} (t : Turn S w w') (h : ∀ j, j < B → ¬ S j) (hB : B ≤ w.heap.size) : Below B w w' := ⟨t.os, t.tape, t.output, t.size, fun k hk => t.block k (by omega) (h k hk)⟩
theorem RMid.kept {tbl : List (List Int)} {fr : List Int} {w wr w2 : World} {n : Nat} {ao so : Option Addr} {cap scap : Nat} (h : RMid tbl fr w n ao cap so scap wr) (t2 : Turn (At so) wr w2) : RowI w.heap.size ao cap (Bf.st (nx tbl) fr n) w2 := h.1.turn t2 (fun j q r => h.2.2.2.2 j r q)
theorem RMid.next {tbl : List (List Int)} {fr : List Int} {w wr w2 w3 : World} {n : Nat} {ao so ao' : Option Addr} {cap scap cap' g2 cap2 : Nat} {k : Int} (h : RMid tbl fr w n ao cap so scap wr) (hk : (Bf.st (nx tbl) fr n)[n]? = some k)
    (hR2 : RowI w.heap.size (some ⟨g2, 0, none⟩) cap2 ((Bf.st (nx tbl) fr n).take n ++ [k]) w2) (t2 : Turn (At so) wr w2) (hg2 : so = some ⟨g2, 0, none⟩ ∨ wr.heap.size ≤ g2)
    (hR3 : RowI w.heap.size ao' cap' (Bf.add (Bf.st (nx tbl) fr n) (nx tbl k)) w3) (t3 : Turn (At ao) w2 w3) (hgo : ao' = ao ∨ ∃ g, ao' = some ⟨g, 0, none⟩ ∧ w2.heap.size ≤ g) : RMid tbl fr w (n + 1) ao' cap' (some ⟨g2, 0, none⟩) cap2 w3 := by
  obtain ⟨hR, hS, hb, hn, hap⟩ := h
  obtain ⟨e1, e2⟩ := st_take hk
  have l1 := hR.lt
  have l2 := hS.lt
  have l3 := (hR2.lt g2 ⟨_, rfl, rfl⟩)
  have s1 := hb.size
  have s2 := t2.size
  have notg : ¬ At ao g2 := fun q => by
    rcases hg2 with r | r
    · exact hap g2 ⟨_, r, rfl⟩ q
    · have := l1 g2 q; omega
  have hR4 := hR2.turn t3 (fun j q r => by obtain ⟨a, e, rfl⟩ := q; cases e; exact notg r)
  refine ⟨by rw [Bf.st_some hk]; exact hR3, by rw [e1]; exact hR4, ?_, e2, ?_⟩
  · refine (hb.trans (below_of t2 (fun j hj q => ?_) s1)).trans (below_of t3 (fun j hj q => ?_) (by omega))
    · have := l2 j q; omega
    · have := l1 j q; omega
  · rintro j ⟨a, e, rfl⟩ q
    cases e
    rcases hgo with r | ⟨g, r, hg⟩
    · rw [r] at q; exact notg q
    · rw [r] at q; obtain ⟨a, e, q⟩ := q; cases e; simp at q; omega
theorem below_turn {w w' : World} (b : Below w.heap.size w w') : Turn (fun _ => False) w w' := turn_below b
end I
end Go.Proofs.Ytdhmommfmmiieaa
set_option linter.unusedVariables false
set_option linter.unusedSimpArgs false
namespace Go.Proofs.Ytdhmommfmmiieaa
open Go.RowKit Go.Maps
namespace I
theorem add_off (b off n : Nat) : (⟨b, off, none⟩ : Addr).add n = ⟨b, off + n, none⟩ := by unfold Addr.add; split <;> simp_all
/-- append of a slice of numbers onto nothing -/
theorem wpList_appS (w : World) {ops : Array Oper} {rest : List Oper} {o : Oper} {a : Act} {Q : Exit → Act → World → Prop} (hw : Region.wanted o (yielded ops a.tmps) = true) (s x : Operand)
    (ho : o.op = .call { callee := .builtin .append, args := #[s, x], argTypes := #[76, 76] }) (B : Nat) (ro : Option Addr) (rc : Nat) (row : List Int) (hs : a.eval s = .slice none 0 0) (hx : a.eval x = .slice ro row.length rc) (hI : Ints ro row w) (hn : ro = none → rc = 0) (hb : Hid (row.length < 4398046511104)) (hB : B ≤ w.heap.size)
    (h : ∀ o' c w', RowI B o' c row w' → Below w.heap.size w w' → wpList Try.prog ops Q rest (a.put o.dst (.slice o' row.length c)) w') :
    wpList Try.prog ops Q (o :: rest) a w := by
  obtain ⟨i0, hi, hz0, hz1, hz2⟩ := info_parts infoE
  have hrow : w.ownsRow B 3 1 (.slice none 0 0) 0 [] := World.ownsRow_nil _ _ _ _
  refine wpList_append_src hw s x 76 ho B 3 i0 (.int .i64 0) 1 8 Try.underlying76 hi hz0 hz1 hz2 rfl (by decide) (.slice none 0 0) 0 [] hs hrow ro row.length rc (row.flatMap cells) hx (fun q => ?_) (by rw [flat_len, Nat.mul_one]) (fun ad q j u hj => ?_) (fun u hu => ?_) (by have := hb.out; unfold maxLen; omega) (by have := hb.out; omega) hB ?_
  · refine ⟨?_, hn q⟩
    rcases hI with rfl | ⟨b, off, e, _⟩
    · rfl
    · rw [q] at e; cases e
  · rw [flat_at] at hj
    cases hk : row[j]? with
    | none => rw [hk] at hj; cases hj
    | some k =>
      rw [hk] at hj
      obtain ⟨b, off, e, _, hc⟩ := hI.at hk
      rw [q] at e; cases e
      rw [add_off, hc]; exact hj
  · rw [flat_map] at hu
    obtain ⟨k, _, rfl⟩ := List.mem_map.1 hu
    rfl
  · intro v' w' hr hg hat
    simp only [Nat.zero_add, List.nil_append] at hr
    have hbel : Below w.heap.size w w' := ⟨hg.os, hg.tape, hg.output, hg.size, fun k hk => hg.block k hk (by simp [Value.ownBlock])⟩
    have hf : ∃ o' c, v' = .slice o' row.length c := by
      rcases hr.2 with ⟨hv, h0⟩ | ⟨g, cap', cur, hv, _⟩
      · exact ⟨none, 0, by rw [h0]; exact hv⟩
      · exact ⟨_, _, hv⟩
    obtain ⟨o', c, rfl⟩ := hf
    exact h o' c w' hr hbel
/-- the four marked places -/
def m4 : List Int := [-7, -7, -7, -7]
theorem wpList_app4 (w0 : World) {ops : Array Oper} {rest : List Oper} {o : Oper} {a : Act} {Q : Exit → Act → World → Prop} (hgd : o.guard = none) (s x : Operand)
    (ho : o.op = .call { callee := .builtin .append, args := #[s, x], argTypes := #[76, 76] }) (B : Nat) (ao : Option Addr) (cap : Nat) (zs : List Int) (t : TypeId) (c : Nat) (hs : a.eval s = .slice ao zs.length cap) (hrow : RowI B ao cap zs w0)
    (hx : a.eval x = .slice (some ⟨w0.heap.size, 0, none⟩) 4 c) (hb : Hid (zs.length < 4398046511104)) (hB : B ≤ w0.heap.size)
    (h : ∀ g cap' w', RowI B (some ⟨g, 0, none⟩) cap' (zs ++ m4) w' → Turn (At ao) w0 w' → (ao = some ⟨g, 0, none⟩ ∨ w0.heap.size ≤ g) → g < w'.heap.size → wpList Try.prog ops Q rest (a.put o.dst (.slice (some ⟨g, 0, none⟩) (zs.length + 4) cap')) w') :
    wpList Try.prog ops Q (o :: rest) a (w0.alloc (.cells #[.int .i64 (-7), .int .i64 (-7), .int .i64 (-7), .int .i64 (-7)] t)) := by
  obtain ⟨i0, hi, hz0, hz1, hz2⟩ := info_parts infoE
  refine wpList_append_lies _ hgd s x 76 ho B 3 i0 (.int .i64 0) 1 8 Try.underlying76 hi hz0 hz1 hz2 rfl (by decide) _ _ _ hs (World.ownsRow.alloc hrow _) ⟨w0.heap.size, 0, none⟩ 4 c [.int .i64 (-7), .int .i64 (-7), .int .i64 (-7), .int .i64 (-7)] hx rfl (fun j u hu => World.news_of_block (heap_alloc_new w0 _) j u (by simpa using hu)) (by simp [Value.oneCell']) (by decide) (by have := hb.out; unfold maxLen; omega) (by have := hb.out; omega) (by simp; omega) (w0.heap.size + 1) (by simp) ?_
  intro g cap' w1 hrow1 hgrow hat hlt
  refine h g cap' w1 ?_ (((Turn.refl _ w0).alloc _).grown hgrow (fun j hj _ => by
    cases ao with
    | none => cases hj
    | some ad => exact ⟨ad, rfl, by simpa [Value.ownBlock] using hj.symm⟩)) ?_ hlt
  · unfold RowI; rw [List.length_append, List.flatMap_append]; simpa [cells, m4] using hrow1
  · rcases hat with q | q
    · cases ao with
      | none => cases q
      | some ad =>
        left
        rcases hrow.form with ⟨e, _⟩ | ⟨g', e, _⟩
        · cases e
        · cases e; simp only [Value.ownBlock, Option.some.injEq] at q; rw [q]
    · right; omega
theorem infoR : (Try.prog.info? 76).map (fun i => (i.zero, i.size, i.bytes)) = some (some (.slice none 0 0), 1, 24) := by kernel_rfl
/-- append of one slice onto a row of slices -/
theorem wpList_appR (w0 : World) {ops : Array Oper} {rest : List Oper} {o : Oper} {a : Act} {Q : Exit → Act → World → Prop} (hgd : o.guard = none) (s x : Operand)
    (ho : o.op = .call { callee := .builtin .append, args := #[s, x], argTypes := #[119, 119] }) (B : Nat) (ao : Option Addr) (cap n : Nat) (vs : List Value) (ro : Option Addr) (rl rc : Nat) (t : TypeId) (c : Nat) (hs : a.eval s = .slice ao n cap) (hrow : w0.ownsRow B 76 1 (.slice ao n cap) n vs)
    (hx : a.eval x = .slice (some ⟨w0.heap.size, 0, none⟩) 1 c) (hb : Hid (n < 1099511627776)) (hB : B ≤ w0.heap.size)
    (h : ∀ g cap' w', w'.ownsRow B 76 1 (.slice (some ⟨g, 0, none⟩) (n + 1) cap') (n + 1) (vs ++ [.slice ro rl rc]) → Turn (At ao) w0 w' → (ao = some ⟨g, 0, none⟩ ∨ w0.heap.size ≤ g) → g < w'.heap.size → wpList Try.prog ops Q rest (a.put o.dst (.slice (some ⟨g, 0, none⟩) (n + 1) cap')) w') :
    wpList Try.prog ops Q (o :: rest) a (w0.alloc (.cells #[.slice ro rl rc] t)) := by
  obtain ⟨i0, hi, hz0, hz1, hz2⟩ := info_parts infoR
  refine wpList_append_lies _ hgd s x 119 ho B 76 i0 (.slice none 0 0) 1 24 Try.underlying119 hi hz0 hz1 hz2 rfl (by decide) _ _ _ hs (World.ownsRow.alloc hrow _) ⟨w0.heap.size, 0, none⟩ 1 c [.slice ro rl rc] hx rfl (cell_one_new _ _ _) (by simp [Value.oneCell']) (by decide) (by have := hb.out; unfold maxLen; omega) (by have := hb.out; omega) (by simp; omega) (w0.heap.size + 1) (by simp) ?_
  intro g cap' w1 hrow1 hgrow hat hlt
  refine h g cap' w1 hrow1 (((Turn.refl _ w0).alloc _).grown hgrow (fun j hj _ => by
    cases ao with
    | none => cases hj
    | some ad => exact ⟨ad, rfl, by simpa [Value.ownBlock] using hj.symm⟩)) ?_ hlt
  rcases hat with q | q
  · cases ao with
    | none => cases q
    | some ad =>
      left
      rcases hrow.2 with ⟨e, _⟩ | ⟨g', cap'', cur, e, _⟩
      · cases e
      · cases e; simp only [Value.ownBlock, Option.some.injEq] at q; rw [q]
  · right; omega
/-- ROWS OF ONE'S OWN, four marked places behind each: all in blocks from B on and below C -/
def RowsV (B C : Nat) (ao : Option Addr) (cap : Nat) (tbl : List (List Int)) (vs : List Value) (w : World) : Prop :=
  w.ownsRow B 76 1 (.slice ao tbl.length cap) tbl.length vs ∧ C ≤ w.heap.size ∧ (∀ j, At ao j → j < C) ∧ ∀ (i : Nat) (row : List Int), tbl[i]? = some row → ∃ g rc, vs[i]? = some (Value.slice (some ⟨g, 0, none⟩) row.length rc) ∧ RowI B (some ⟨g, 0, none⟩) rc (row ++ m4) w ∧ g < C ∧ ¬ At ao g
def Rows (B C : Nat) (ao : Option Addr) (cap : Nat) (tbl : List (List Int)) (w : World) : Prop := ∃ vs, RowsV B C ao cap tbl vs w
theorem Rows.turn {S : Nat → Prop} {B C : Nat} {ao : Option Addr} {cap : Nat} {tbl : List (List Int)} {w w' : World} (h : Rows B C ao cap tbl w) (t : Turn S w w') (hS : ∀ j, B ≤ j → j < C → ¬ S j) : Rows B C ao cap tbl w' := by
  obtain ⟨vs, h1, h2, h3, h4⟩ := h
  refine ⟨vs, t.row h1 (fun g hg => ?_), Nat.le_trans h2 t.size, h3, fun i row q => ?_⟩
  · rcases h1.2 with ⟨e, _⟩ | ⟨g', cap', cur, e, hb, _⟩
    · simp only [Value.slice.injEq] at e; rw [e.1] at hg; cases hg
    · simp only [Value.slice.injEq] at e; rw [e.1] at hg h3; cases hg; exact hS _ hb (h3 _ ⟨_, rfl, rfl⟩)
  · obtain ⟨g, rc, a1, a2, a3, a4⟩ := h4 i row q
    exact ⟨g, rc, a1, a2.turn t (fun j hj => by
      obtain ⟨a, e, rfl⟩ := hj; cases e
      exact hS _ (a2.lt g ⟨_, rfl, rfl⟩).1 a3), a3, a4⟩
theorem Rows.at {B C : Nat} {ao : Option Addr} {cap : Nat} {tbl : List (List Int)} {w : World} (h : Rows B C ao cap tbl w) {i : Nat} {row : List Int} (q : tbl[i]? = some row) : ∃ b g rc, ao = some ⟨b, 0, none⟩ ∧ B ≤ b ∧ b < C ∧ tbl.length ≤ cap ∧ w.cell? ⟨b, i, none⟩ = some (.slice (some ⟨g, 0, none⟩) row.length rc) ∧ RowI B (some ⟨g, 0, none⟩) rc (row ++ m4) w ∧ g < C := by
  obtain ⟨vs, h1, h2, h3, h4⟩ := h
  obtain ⟨g, rc, a1, a2, a3, a4⟩ := h4 i row q
  rcases h1.2 with ⟨e, h0⟩ | ⟨b, cap', cur, e, hb, hg, k1, k2, k3, k4⟩
  · rw [List.length_eq_zero_iff] at h0; rw [h0] at q; simp at q
  · simp only [Value.slice.injEq] at e
    obtain ⟨rfl, _, rfl⟩ := e
    refine ⟨b, g, rc, rfl, hb, h3 _ ⟨_, rfl, rfl⟩, k1, ?_, a2, a3⟩
    rw [Lib.cell_of_heap hg]
    have hl := (List.getElem?_eq_some_iff.1 q).1
    rw [← k4, List.getElem?_take_of_lt (by omega), Array.getElem?_toList] at a1
    exact a1
theorem RowsV.nil (B : Nat) (w : World) : RowsV B w.heap.size none 0 [] [] w := ⟨World.ownsRow_nil _ _ _ _, Nat.le_refl _, fun j => by rintro ⟨a, e, _⟩; (cases e), fun i row q => by simp at q⟩
/-- one more: a new row, then the append of its slice -/
theorem RowsV.grown {B : Nat} {ao : Option Addr} {cap : Nat} {tbl : List (List Int)} {row : List Int} {vs : List Value} {w w1 w2 : World} {g rc gb cap2 : Nat} (h : RowsV B w.heap.size ao cap tbl vs w) (t1 : Below w.heap.size w w1) (hr : RowI B (some ⟨g, 0, none⟩) rc (row ++ m4) w1) (hg : w.heap.size ≤ g)
    (hrow : w2.ownsRow B 76 1 (.slice (some ⟨gb, 0, none⟩) (tbl.length + 1) cap2) (tbl.length + 1) (vs ++ [.slice (some ⟨g, 0, none⟩) row.length rc])) (t2 : Turn (At ao) w1 w2) (hgb : ao = some ⟨gb, 0, none⟩ ∨ w1.heap.size ≤ gb) (hlt : gb < w2.heap.size) : RowsV B w2.heap.size (some ⟨gb, 0, none⟩) cap2 (tbl ++ [row]) (vs ++ [.slice (some ⟨g, 0, none⟩) row.length rc]) w2 := by
  obtain ⟨h1, h2, h3, h4⟩ := h
  have lv : vs.length = tbl.length := by simpa using h1.1
  have s1 := t1.size
  have s2 := t2.size
  have lg := (hr.lt g ⟨_, rfl, rfl⟩).2
  refine ⟨by rw [List.length_append]; exact hrow, Nat.le_refl _, ?_, fun i r q => ?_⟩
  · rintro j ⟨a, e, rfl⟩; cases e; exact hlt
  · rcases Nat.lt_or_ge i tbl.length with hi | hi
    · rw [List.getElem?_append_left hi] at q
      obtain ⟨g', rc', a1, a2, a3, a4⟩ := h4 i r q
      refine ⟨g', rc', by rw [List.getElem?_append_left (by omega)]; exact a1, (a2.below t1).turn t2 (fun j hj => ?_), by omega, ?_⟩
      · obtain ⟨a, e, rfl⟩ := hj; cases e; exact a4
      · rintro ⟨a, e, q⟩; cases e
        simp at q
        rcases hgb with r | r
        · exact a4 ⟨_, r, q⟩
        · omega
    · have hi2 : i = tbl.length := by
        have := (List.getElem?_eq_some_iff.1 q).1
        simp at this; omega
      subst hi2
      have er : r = row := by simpa using q.symm
      subst er
      refine ⟨g, rc, by rw [← lv]; simp, hr.turn t2 (fun j hj q => ?_), by omega, ?_⟩
      · obtain ⟨a, e, rfl⟩ := hj; cases e
        have := h3 _ q; simp at this; omega
      · rintro ⟨a, e, q⟩; cases e
        simp at q
        rcases hgb with r | r
        · have := h3 gb ⟨_, r, rfl⟩; omega
        · omega
theorem fst4 {B n : Nat} {ao o3 : Option Addr} {cap c3 : Nat} {tb : List (List Int)} {row : List Int} {vs : List Value} {wr w3 w4 : World} (hn : tb.length = n) (hV : RowsV B wr.heap.size ao cap tb vs wr) (b3 : Below wr.heap.size wr w3) (r3 : RowI wr.heap.size o3 c3 row w3) (t4 : Turn (At o3) w3 w4) :
    w4.ownsRow B 76 1 (.slice ao n cap) n vs ∧ Below wr.heap.size wr w4 := by
  subst hn
  have s3 := b3.size
  refine ⟨t4.row ((below_turn b3).row hV.1 (fun _ _ q => q)) (fun g hg q => ?_), b3.trans (below_of t4 (fun j hj q => ?_) s3)⟩
  · have h1 := (r3.lt g q).1
    cases ao with
    | none => cases hg
    | some a => have := hV.2.2.1 a.block ⟨a, rfl, rfl⟩; simp [Value.ownBlock] at hg; omega
  · have h1 := (r3.lt j q).1; omega
/-- what rows tells -/
def RowsIs (tbl : List (List Int)) (w : World) (e : Ending) (w' : World) : Prop := ∃ ao cap, e = .returned (.slice ao tbl.length cap) ∧ Rows w.heap.size w'.heap.size ao cap tbl w' ∧ Below w.heap.size w w'
end I
end Go.Proofs.Ytdhmommfmmiieaa
set_option linter.unusedVariables false
set_option linter.unusedSimpArgs false
namespace Go.Proofs.Ytdhmommfmmiieaa
open Go.RowKit Go.Maps
namespace Q
theorem zeroE (w : World) : (zeroValue 107).run Try.prog w = .ok (.agg #[]) w := by kernel_rfl
theorem laidOutQ : laidOutB Try.prog = true := by kernel_rfl
theorem cells31 : Try.prog.cellsOf 98 = 2 := by kernel_rfl
theorem cells9 : Try.prog.cellsOf 9 = 1 := by kernel_rfl
theorem row31 : 98 < Try.prog.types.size := of_decide_eq_true (by kernel_rfl)
theorem wide31 : (match Try.prog.underlying 98 with | some (.array _ _) | some (.struct _) => true | _ => false) = true := by rw [Try.underlying98]
theorem deep31 : Try.prog.keyTypeAt (Try.prog.types.size + 1) 98 = true := by kernel_rfl
theorem formed31 {c0 c1 : Value} : (Value.agg #[c0, c1]).formed Try.prog 98 = true := by simp [Value.formed, Try.underlying98, cells31]
set_option maxRecDepth 100000 in
theorem law : Keyed Try.prog 98 := Keyed.of_law (deep_law_laid laidOutQ (m := 2) (by omega) row31 (by kernel_rfl) wide31)
def okk (k : K2) : Prop := k.1.size ≤ maxLen ∧ k.2.size ≤ maxLen
def lit (k : K2) : Lit := (DataW.agg [.lit (.string k.1.data.toList), .lit (.string k.2.data.toList)] : DataW Unit).asKey
set_option maxRecDepth 100000 in
theorem hkey {k : K2} (h : okk k) : keyOf Try.prog 98 (.agg #[.string k.1, .string k.2]) = some (lit k) := by
  have hd : DataW.Trod (fun _ : TypeId × Value => ()) Try.prog default 0 (fun _ => true) true 98 (.agg #[.string k.1, .string k.2]) (.agg [.lit (.string k.1.data.toList), .lit (.string k.2.data.toList)]) [] := by
    refine ⟨3, ?_⟩
    have hr : List.range 2 = [0, 1] := rfl
    simp [DataW.trod, Try.underlying98, Try.underlying9, h.1, h.2, Value.cells, cells31, cells9, hr]
  exact (keyOf_asKey deep31 wide31 formed31 hd).1
theorem inj (j k : K2) (hj : okk j) (hk : okk k) (h : lit j = lit k) : j = k := by
  have a := hkey hj
  rw [h] at a
  have := law.inj a (hkey hk)
  simp at this
  exact Prod.ext this.1 this.2
theorem isKey {k : K2} (h : okk k) : WideAt.IsKeyLit (lit k) := law.key (hkey h)
theorem has_put {D : DataW Unit} {ms : List K2} (h : ∀ k, okk k → Maps.has D (lit k) = isIn ms k) (hm : IsMap D) {k : K2} (hok : okk k) : ∀ j, okk j → Maps.has (D.put (lit k) (.agg [])) (lit j) = isIn (ms ++ [k]) j := by
  intro j hj
  by_cases e : j = k
  · subst e; rw [has_put_same hm (isKey hok)]; simp [isIn]
  · rw [has_put_other (fun q => e (inj j k hj hok q)), h j hj]; simp [isIn, e]
/-- the isNew's boxes -/
def W3 (w : World) (k : K2) : World := (((w.alloc (.cells #[.string k.1, .string k.2] 98)).alloc (.cells #[.bool false] 4)).alloc (.cells #[] 107)).drew
theorem W3_box (w : World) (k : K2) : (W3 w k).heap[w.heap.size + 1]? = some (.cells #[.bool false] 4 (0, 0)) := by
  have e : (w.alloc (.cells #[.string k.1, .string k.2] 98)).heap.size = w.heap.size + 1 := by simp
  have a := heap_alloc_new (w.alloc (.cells #[.string k.1, .string k.2] 98)) (.cells #[.bool false] 4)
  rw [e] at a
  exact (Below.heap_alloc ((w.alloc (.cells #[.string k.1, .string k.2] 98)).alloc (.cells #[.bool false] 4)) (.cells #[] 107) (w.heap.size + 1) (by simp)).trans a
theorem W3_below (w : World) (k : K2) : Below w.heap.size w (W3 w k) := ((((Below.refl _ _).alloc (Nat.le_refl _) _).alloc (by simp) _).alloc (by simp; omega) _).drew
theorem W3_size (w : World) (k : K2) : (W3 w k).heap.size = w.heap.size + 3 := by show ((((w.alloc _).alloc _).alloc _)).heap.size = _; simp
end Q
end Go.Proofs.Ytdhmommfmmiieaa
set_option linter.unusedVariables false
set_option linter.unusedSimpArgs false
namespace Go.Proofs.Ytdhmommfmmiieaa
open Go.RowKit Go.Maps
namespace Q
theorem alloc_cell {w w1 : World} {ob : Obj} {row : Option Nat} (hg : (w.alloc ob).grownBy w1 row) {x o : Nat} (hx : x < w.heap.size) (hr : some x ≠ row) : w1.cell? ⟨x, o, none⟩ = w.cell? ⟨x, o, none⟩ :=
  World.cell?_of_block (w := w) ((hg.block x (by simp; omega) hr).trans (Below.heap_alloc _ _ _ hx))
theorem alloc_frozen {w w1 : World} {ob : Obj} {row : Option Nat} (hg : (w.alloc ob).grownBy w1 row) {x o : Nat} (hx : x < w.heap.size) (hr : some x ≠ row) : w1.frozen? ⟨x, o, none⟩ = w.frozen? ⟨x, o, none⟩ :=
  World.frozen?_of_block (w := w) ((hg.block x (by simp; omega) hr).trans (Below.heap_alloc _ _ _ hx))
theorem Own.not {x bm : Nat} {ao : Option Addr} {j : Nat} (h1 : j ≠ x) (h2 : j ≠ bm) (h3 : ∀ a, ao = some a → j ≠ a.block) : ¬ Own x bm ao j := by
  rintro (q | q | ⟨a, ha, q⟩)
  · exact h1 q
  · exact h2 q
  · exact h3 a ha q
end Q
end Go.Proofs.Ytdhmommfmmiieaa
set_option linter.unusedVariables false
set_option linter.unusedSimpArgs false
namespace Go.Proofs.Ytdhmommfmmiieaa
open Go.RowKit Go.Maps
namespace Q
/-- what Close leaves: a list in a row of its own -/
def ClosedIs (B : Nat) (ys : List K2) (w' : World) (e : Ending) : Prop := ∃ ao cap, e = .returned (.slice ao ys.length cap) ∧ w'.ownsRow B 98 2 (.slice ao ys.length cap) ys.length (ys.flatMap cells)
theorem made_not {fo : Option Addr} {fr : List K2} {w : World} (h : Ints fo fr w) : fr ≠ [] → ∀ b off, fo = some ⟨b, off, none⟩ → ¬ Own (w.heap.size + 1) w.heap.size none b := fun hn b off q => by
  rcases h with h | ⟨b', off', h1, h2, _⟩
  · exact absurd h hn
  · rw [q] at h1; cases h1
    rintro (e | e | ⟨a, e, _⟩)
    · omega
    · omega
    · cases e
/-- what the function value nf with its boxes caps tells of a thing's turn -/
def NextIs (F : K2 → List K2) (B : Nat) (A : Nat → Prop) (O : List K2 → Option Nat → World → Prop) (pre : List K2) (ag : Option Nat) (k : K2) (wx : World) (e : Ending) (w' : World) : Prop :=
  ∃ to tcap ag', e = .returned (.slice to (F k).length tcap) ∧ (F k).length ≤ tcap ∧ Ints to (F k) w' ∧ O (pre ++ [k]) ag' w' ∧ Turn (fun j => A j ∨ some j = ag) wx w' ∧ (ag' = ag ∨ ∃ g, ag' = some g ∧ wx.heap.size ≤ g) ∧ (F k ≠ [] → ∀ b off, to = some ⟨b, off, none⟩ → b < B ∨ wx.heap.size ≤ b)
structure Nxt (nf : Nat) (caps : Array Value) (F : K2 → List K2) (u : List K2) (B : Nat) (A : Nat → Prop) (O : List K2 → Option Nat → World → Prop) : Prop where
  enters : ∀ args w, (callFunc nf args).run Try.prog w = .ok (.enter nf args) w
  low : ∀ j, A j → j < B
  lt : ∀ pre ag w, O pre ag w → ∀ j, ag = some j → j < w.heap.size
  keep : ∀ pre ag wx wy S, O pre ag wx → Turn S wx wy → (∀ j, j < wx.heap.size → S j → B ≤ j ∧ some j ≠ ag) → O pre ag wy
  call : ∀ pre ag k wx, k ∈ u → O pre ag wx → B ≤ wx.heap.size → pre.length < u.length → Calls Try.prog nf (#[.agg #[.string k.1, .string k.2]] ++ caps) wx fun e w' => NextIs F B A O pre ag k wx e w'
/-- what Close leaves -/
def CloseIs (F : K2 → List K2) (fr : List K2) (B : Nat) (A : Nat → Prop) (O : List K2 → Option Nat → World → Prop) (ag : Option Nat) (w : World) (e : Ending) (w' : World) : Prop :=
  ∃ n ao cap ag', (Bf.st F fr n).length = n ∧ e = .returned (.slice ao n cap) ∧ w'.ownsRow B 98 2 (.slice ao n cap) n ((Bf.st F fr n).flatMap cells) ∧ O (Bf.st F fr n) ag' w' ∧ Turn (fun j => A j ∨ some j = ag) w w' ∧ (ag' = ag ∨ ∃ g, ag' = some g ∧ B ≤ g) ∧ (∀ a, ao = some a → some a.block ≠ ag')
end Q
end Go.Proofs.Ytdhmommfmmiieaa
set_option linter.unusedVariables false
set_option linter.unusedSimpArgs false
namespace Go.Proofs.Ytdhmommfmmiieaa
open Go.RowKit Go.Maps
namespace Q
end Q
end Go.Proofs.Ytdhmommfmmiieaa
set_option linter.unusedVariables false
set_option linter.unusedSimpArgs false
namespace Go.Proofs.Ytdhmommfmmiieaa
open Go.RowKit Go.Maps
namespace Q
end Q
end Go.Proofs.Ytdhmommfmmiieaa
