import Derived.Test.YtihdagehenmolaaInm
import Derived.Test.YtihdagehenmolaaApp
set_option linter.unusedVariables false
set_option linter.unusedSimpArgs false
namespace Go.Proofs.Ytihdagehenmolaa
open Go.RowKit
namespace M
def At (ao : Option Addr) (j : Nat) : Prop := ∃ a, ao = some a ∧ j = a.block
theorem own_at {ao : Option Addr} {n cap j : Nat} (h : (Value.slice ao n cap).ownBlock = some j) : At ao j := by
  cases ao with
  | none => cases h
  | some a => simp only [Value.ownBlock, Option.some.injEq] at h; exact ⟨a, rfl, h.symm⟩
/-- things as cells, one behind the other -/
def flat {α : Type} (arr : α → Array Value) (ss : List α) : List Value := ss.flatMap fun x => (arr x).toList
theorem flat_len {α : Type} {m : Nat} {arr : α → Array Value} (ha : ∀ q, (arr q).size = m) (ss : List α) : (flat arr ss).length = ss.length * m := by
  unfold flat
  induction ss with
  | nil => simp
  | cons a t ih => rw [List.flatMap_cons, List.length_append, ih, Array.length_toList, ha, List.length_cons, Nat.add_mul]; omega
theorem flat_add {α : Type} (arr : α → Array Value) (ss ts : List α) : flat arr (ss ++ ts) = flat arr ss ++ flat arr ts := by unfold flat; rw [List.flatMap_append]
theorem flat_at {α : Type} {m : Nat} {arr : α → Array Value} (ha : ∀ q, (arr q).size = m) : ∀ (ss : List α) (k r : Nat) (z : α), r < m → ss[k]? = some z → (flat arr ss)[k * m + r]? = (arr z)[r]? := by
  intro ss
  induction ss with
  | nil => intro k r z _ h; simp at h
  | cons a t ih =>
    intro k r z hr h
    rw [show flat arr (a :: t) = (arr a).toList ++ flat arr t from rfl]
    have hl : (arr a).toList.length = m := by rw [Array.length_toList, ha]
    cases k with
    | zero =>
      simp only [List.getElem?_cons_zero, Option.some.injEq] at h
      subst h
      rw [Nat.zero_mul, Nat.zero_add, List.getElem?_append_left (by omega), Array.getElem?_toList]
    | succ k =>
      rw [List.getElem?_cons_succ] at h
      rw [List.getElem?_append_right (by rw [hl, Nat.add_mul]; omega), hl, show (k + 1) * m + r - m = k * m + r by rw [Nat.add_mul]; omega]
      exact ih k r z hr h
theorem Rw.of_row {α : Type} {m : Nat} {arr : α → Array Value} (ha : ∀ q, (arr q).size = m) {w : World} {B e : Nat} {ao : Option Addr} {cap : Nat} {ss : List α} (h : w.ownsRow B e m (.slice ao ss.length cap) ss.length (flat arr ss)) : Rw m arr w ao ss := by
  rcases h.2 with ⟨hv, h0⟩ | ⟨g, cap', cur, hv, hb, hg, rest⟩
  · exact .inl (List.length_eq_zero_iff.1 h0)
  · simp only [Value.slice.injEq] at hv
    obtain ⟨rfl, _, _⟩ := hv
    refine .inr ⟨g, 0, rfl, lt_of_heap hg, fun j x hx r hr => ?_⟩
    have hj := (List.getElem?_eq_some_iff.1 hx).1
    rw [Nat.zero_add, h.cellAt (j * m + r) (by have : (j + 1) * m ≤ ss.length * m := Nat.mul_le_mul_right _ hj; rw [Nat.add_mul] at this; omega)]
    exact flat_at ha ss j r x hr hx
/-- a row that is its holder's -/
structure Own {α : Type} (m e : Nat) (arr : α → Array Value) (B : Nat) (v : Value) (ss : List α) (w : World) : Prop where
  row : w.ownsRow B e m v ss.length (flat arr ss)
theorem Own.form {α : Type} {m e : Nat} {arr : α → Array Value} {B : Nat} {v : Value} {ss : List α} {w : World} (h : Own m e arr B v ss w) : ∃ ao cap, v = .slice ao ss.length cap ∧ ss.length ≤ cap ∧ (ao = none → cap = 0) ∧ (∀ j, At ao j → B ≤ j) := by
  rcases h.row.2 with ⟨hv, h0⟩ | ⟨g, cap', cur, hv, hb, hg, hc, _⟩
  · exact ⟨none, 0, by rw [hv, h0], by omega, fun _ => rfl, fun j hj => by obtain ⟨_, q, _⟩ := hj; cases q⟩
  · exact ⟨some ⟨g, 0, none⟩, cap', hv, hc, fun q => (by cases q), fun j hj => by obtain ⟨a, q, rfl⟩ := hj; cases q; exact hb⟩
theorem Own.rw' {α : Type} {m e : Nat} {arr : α → Array Value} (ha : ∀ q, (arr q).size = m) {B : Nat} {ao : Option Addr} {cap : Nat} {ss : List α} {w : World} (h : Own m e arr B (.slice ao ss.length cap) ss w) : Rw m arr w ao ss := Rw.of_row ha h.row
theorem Own.below {α : Type} {m e : Nat} {arr : α → Array Value} {B : Nat} {v : Value} {ss : List α} {w w' : World} (h : Own m e arr B v ss w) (b : Below w.heap.size w w') : Own m e arr B v ss w' := by
  refine ⟨h.row.1, ?_⟩
  rcases h.row.2 with h2 | ⟨g, cap, cur, hv, hb, hg, rest⟩
  · exact .inl h2
  · exact .inr ⟨g, cap, cur, hv, hb, (b.block g (lt_of_heap hg)).trans hg, rest⟩
theorem Own.kept {α : Type} {m e : Nat} {arr : α → Array Value} {B : Nat} {v : Value} {ss : List α} {w w' : World} {S : Nat → Prop} (h : Own m e arr B v ss w) (t : Turn S w w') (hn : ∀ g, v.ownBlock = some g → ¬ S g) : Own m e arr B v ss w' := ⟨t.row h.row hn⟩
theorem own_nil {α : Type} (m e : Nat) (arr : α → Array Value) (B : Nat) (w : World) : Own m e arr B (.slice none 0 0) [] w := ⟨by simp [flat], .inl ⟨rfl, rfl⟩⟩
/-- append of one thing to a row -/
theorem wpList_more {α : Type} {t e m bytes : Nat} {z : Value} {arr : α → Array Value} (ha : ∀ q, (arr q).size = m) (ht : Try.prog.underlying t = some (.slice e)) (hinf : (Try.prog.info? e).map (fun i => (i.zero, i.size, i.bytes)) = some (some z, m, bytes)) (hz : z.cells.size = m) (hm : 0 < m) (w : World) {ops : Array Oper} {rest : List Oper} {o : Oper} {a : Go.Act} {Q : Exit → Go.Act → World → Prop} (hgd : o.guard = none) (s y : Operand)
    (ho : o.op = .call { callee := .builtin .append, args := #[s, y], argTypes := #[t, t] }) {B : Nat} {ro : Option Addr} {rc : Nat} {ss : List α} (hrow : Own m e arr B (.slice ro ss.length rc) ss w) (hl : ss.length < maxLen) (hl2 : (ss.length + 1) * bytes ≤ 140737488355328) (hB : B ≤ w.heap.size) (x : α) (h1 : ∀ u ∈ (arr x).toList, u.oneCell' = true) (c : Nat) (hs : a.eval s = .slice ro ss.length rc) (hx : a.eval y = .slice (some ⟨w.heap.size, 0, none⟩) 1 c)
    (hk : ∀ gg cap' w1, Own m e arr B (.slice (some ⟨gg, 0, none⟩) (ss ++ [x]).length cap') (ss ++ [x]) w1 → Turn (At ro) w w1 → (At ro gg ∨ w.heap.size ≤ gg) → wpList Try.prog ops Q rest (a.put o.dst (.slice (some ⟨gg, 0, none⟩) (ss.length + 1) cap')) w1) :
    wpList Try.prog ops Q (o :: rest) a (w.alloc (.cells (arr x) e)) := by
  obtain ⟨i0, hi0, hz0, hz1, hz2⟩ := info_parts hinf
  refine wpList_append_lies _ hgd s y t ho B e i0 _ m bytes ht hi0 hz0 hz1 hz2 hz hm _ ss.length (flat arr ss) hs (World.ownsRow.alloc hrow.row _) ⟨w.heap.size, 0, none⟩ 1 c (arr x).toList hx (by rw [Array.length_toList, ha]; omega) (fun j u hj => World.news_of_block (heap_alloc_new w (.cells (arr x) e)) j u (by simpa using hj)) h1 (by omega) (by omega) hl2 (by simp; omega) (w.heap.size + 1) (by simp) ?_
  intro gg cap' w1 hown1 hgrow hat hlt
  have t0 : Turn (At ro) w w1 := ((Turn.refl _ w).alloc _).grown hgrow (fun k hk _ => own_at hk)
  refine hk gg cap' w1 ⟨?_⟩ t0 ?_
  · rw [flat_add, List.length_append, show flat arr [x] = (arr x).toList by simp [flat]]
    exact hown1
  · rcases hat with q | q
    · exact .inl (own_at q)
    · exact .inr (by omega)
theorem Rw.src {α : Type} {m : Nat} {arr : α → Array Value} (ha : ∀ q, (arr q).size = m) (hm : 0 < m) {w : World} {a : Option Addr} {ss : List α} (h : Rw m arr w a ss) : ∀ ad, a = some ad → ∀ j u, (flat arr ss)[j]? = some u → w.cell? (ad.add j) = some u := by
  intro ad had j u hj
  rcases h with h | ⟨b, off, h1, h2, h3⟩
  · subst h; simp [flat] at hj
  · rw [had] at h1
    cases h1
    have hlt := (List.getElem?_eq_some_iff.1 hj).1
    rw [flat_len ha] at hlt
    have hk : j / m < ss.length := (Nat.div_lt_iff_lt_mul hm).2 hlt
    have hr := Nat.mod_lt j hm
    have hd := Nat.div_add_mod j m
    obtain ⟨x, hx⟩ : ∃ x, ss[j / m]? = some x := ⟨_, List.getElem?_eq_getElem hk⟩
    have e := flat_at ha ss (j / m) (j % m) x hr hx
    rw [Nat.mul_comm, hd, hj] at e
    rw [Inm.add_off]
    have := h3 (j / m) x hx (j % m) hr
    rw [Nat.add_assoc, Nat.mul_comm (j / m), hd] at this
    rw [this, ← e]
/-- append of a slice that came in to nil -/
theorem wpList_all {α : Type} {t e m bytes : Nat} {z : Value} {arr : α → Array Value} (ha : ∀ q, (arr q).size = m) (ht : Try.prog.underlying t = some (.slice e)) (hinf : (Try.prog.info? e).map (fun i => (i.zero, i.size, i.bytes)) = some (some z, m, bytes)) (hz : z.cells.size = m) (hm : 0 < m) (w : World) {ops : Array Oper} {rest : List Oper} {o : Oper} {a : Go.Act} {Q : Exit → Go.Act → World → Prop} (hw : Region.wanted o (yielded ops a.tmps) = true) (s y : Operand)
    (ho : o.op = .call { callee := .builtin .append, args := #[s, y], argTypes := #[t, t] }) (hs : a.eval s = .slice none 0 0) {src : Option Addr} {c : Nat} {ss : List α} (hx : a.eval y = .slice src ss.length c) (hn : src = none → c = 0) (hc : ss.length ≤ c) (hR : Rw m arr w src ss) (h1 : ∀ x, ∀ u ∈ (arr x).toList, u.oneCell' = true) (hl : ss.length ≤ maxLen) (hl2 : ss.length * bytes ≤ 140737488355328)
    (hk : ∀ v w1, Own m e arr w.heap.size v ss w1 → Below w.heap.size w w1 → wpList Try.prog ops Q rest (a.put o.dst v) w1) :
    wpList Try.prog ops Q (o :: rest) a w := by
  obtain ⟨i0, hi0, hz0, hz1, hz2⟩ := info_parts hinf
  refine wpList_append_src hw s y t ho w.heap.size e i0 z m bytes ht hi0 hz0 hz1 hz2 hz hm (.slice none 0 0) 0 [] hs (own_nil m e arr w.heap.size w).row src ss.length c (flat arr ss) hx (fun q => ⟨by have := hn q; omega, hn q⟩) (flat_len ha ss) (hR.src ha hm) (fun u hu => ?_) (by omega) (by rw [Nat.zero_add]; exact hl2) (Nat.le_refl _) ?_
  · unfold flat at hu
    obtain ⟨x, _, hx'⟩ := List.mem_flatMap.1 hu
    exact h1 x u hx'
  · intro v' w' r g o'
    rw [Nat.zero_add, List.nil_append] at r
    exact hk v' w' ⟨r⟩ ⟨g.os, g.tape, g.output, g.size, fun k hk => g.block k hk (fun q => by cases q)⟩
end M
end Go.Proofs.Ytihdagehenmolaa
