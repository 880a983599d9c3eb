import Derived.Test.YtihdagehenmolaaTwC
set_option linter.unusedVariables false
set_option linter.unusedSimpArgs false
namespace Go.Proofs.Ytihdagehenmolaa
open Go.RowKit
namespace J
open M K
variable {B t d jb : Nat} {room : Int} {es : List En} {s : Nat} {ao : Option Addr} {cap : Nat} {lo : Option Addr} {lc : Nat} {af : Option Addr} {cf : Nat} {w w' w1 w2 : World} {pj lv : Value} {L : List UInt8}
/-- a disk and the document's, before a journal is opened -/
structure Hf (B t d : Nat) (pj : Value) (L : List UInt8) (room : Int) (s : Nat) (lv : Value) (ao : Option Addr) (cap : Nat) (w : World) : Prop where
  hp : w.heap[t]? = some (.cells #[.pointer (some ⟨d, 0, none⟩), pj, .string (sb L), .int .i64 room, .int .i64 (s : Nat), lv] 54 (0, 0))
  dk : Dk B d room L s ao cap w
  hb : B ≤ t
theorem Hf.below (q : Hf B t d pj L room s lv ao cap w) (b : Below w.heap.size w w') : Hf B t d pj L room s lv ao cap w' := ⟨(b.block t (lt_of_heap q.hp)).trans q.hp, q.dk.below b, q.hb⟩
theorem Hf.c (q : Hf B t d pj L room s lv ao cap w) : w.cell? ⟨t, 0, none⟩ = some (.pointer (some ⟨d, 0, none⟩)) ∧ w.cell? ⟨t, 1, none⟩ = some pj ∧ w.cell? ⟨t, 2, none⟩ = some (.string (sb L)) ∧ w.cell? ⟨t, 5, none⟩ = some lv :=
  ⟨Lib.cell_of_heap q.hp 0, Lib.cell_of_heap q.hp 1, Lib.cell_of_heap q.hp 2, Lib.cell_of_heap q.hp 5⟩
theorem Hf.f (q : Hf B t d pj L room s lv ao cap w) (j : Nat) : w.frozen? ⟨t, j, none⟩ = false := Lib.frozen_of_heap q.hp j
theorem Hf.lt (q : Hf B t d pj L room s lv ao cap w) : t < w.heap.size := lt_of_heap q.hp
theorem Lv.hf (q : Lv B t d jb room es s ao cap lo lc w) : Hf B t d (.pointer (some ⟨jb, 0, none⟩)) (recs es) room s (.slice lo es.length lc) ao cap w := ⟨q.hp, q.dk, q.hb⟩
theorem dk_nt {T : Nat} {cs : Array Value} (k : Dk B d room L s ao cap w) (h : w.heap[T]? = some (.cells cs 54 (0, 0))) : ∀ j, DB d ao j → j ≠ T := fun j hj e => by
  rcases hj with hj | hj
  · exact cells_ne k.hp h (by decide) (hj.symm.trans e)
  · obtain ⟨_, c, h2⟩ := own_kind k.row hj
    exact cells_ne h2 h (by decide) e
/-- what opening lays -/
theorem open_core (h : Hf B t d pj (recs es) room s lv ao cap w) (ok : ∀ e ∈ es, e.ok) (b1 : Below w.heap.size w w1) (l1 : Es w.heap.size lo lc es w1) (b2 : Below w1.heap.size w1 w2) (hj : w1.heap.size ≤ jb) (j2 : Jn jb d (lst es) w2) (g2 : Es w1.heap.size af cf es w2) (hB : B ≤ w.heap.size) :
    Lv B t d jb room es s ao cap lo lc ((w2.setCell ⟨t, 1, none⟩ (.pointer (some ⟨jb, 0, none⟩))).setCell ⟨t, 5, none⟩ (.slice lo es.length lc)) ∧ Es w1.heap.size af cf es ((w2.setCell ⟨t, 1, none⟩ (.pointer (some ⟨jb, 0, none⟩))).setCell ⟨t, 5, none⟩ (.slice lo es.length lc)) ∧ Turn (fun j => j = t) w ((w2.setCell ⟨t, 1, none⟩ (.pointer (some ⟨jb, 0, none⟩))).setCell ⟨t, 5, none⟩ (.slice lo es.length lc)) ∧ (t < w1.heap.size ∧ (∀ j, DB d ao j → j < w1.heap.size) ∧ ∀ j, At lo j → j < w1.heap.size) := by
  have b12 : Below w.heap.size w w2 := b1.trans (b2.mono b1.size)
  have h2 := h.below b12
  have tt : Turn (fun j => j = t) w2 ((w2.setCell ⟨t, 1, none⟩ (.pointer (some ⟨jb, 0, none⟩))).setCell ⟨t, 5, none⟩ (.slice lo es.length lc)) := (turn_b t 1 _ w2).trans (turn_b t 5 _ _)
  have hlo : ∀ j, At lo j → w.heap.size ≤ j ∧ j < w1.heap.size := fun j hj => by
    obtain ⟨a1, cs, a2⟩ := own_kind l1 hj
    exact ⟨a1, lt_of_heap a2⟩
  have htw := h.lt
  have hw1 := b1.size
  refine ⟨⟨?_, h2.dk.kept tt (dk_nt h2.dk h2.hp), j2.kept tt (fun e => ?_), ?_, ok, h.hb, by omega⟩, ?_, (turn_below b12).trans tt, by omega, fun j hj => ?_, fun j hj => (hlo j hj).2⟩
  · rw [set_block (set_block h2.hp)]; rfl
  · omega
  · exact Own.mono ((l1.below b2).kept tt (fun g hg e => by have := hlo g (own_at hg); omega)) hB
  · exact g2.kept tt (fun g hg e => by
      obtain ⟨a1, _⟩ := own_kind g2 (own_at hg)
      omega)
  · have := (h.dk.in hj).2; omega
theorem Lv.low {s0 : Nat} (q : Lv B t d jb room es s ao cap lo lc w) (b : Below s0 w w') (j : Jn jb d (lst es) w') (low : t < s0 ∧ (∀ j, DB d ao j → j < s0) ∧ ∀ j, At lo j → j < s0) : Lv B t d jb room es s ao cap lo lc w' := by
  have tt : Turn (fun j => s0 ≤ j) w w' := ⟨b.os, b.tape, b.output, b.size, fun k hk hn => b.block k (by omega)⟩
  exact ⟨(b.block t low.1).trans q.hp, q.dk.kept tt (fun j hj h => by have := low.2.1 j hj; omega), j, q.ls.kept tt (fun g hg h => by have := low.2.2 g (own_at hg); omega), q.ok, q.hb, q.hj⟩
/-- the marks -/
def em : En := ⟨99, [109, 97, 114, 107]⟩
def eq9 : En := ⟨98, [109, 111, 114, 101]⟩
/-- while the entries are marked -/
structure Mk (W : World) (s0 : Nat) (jb d : Nat) (e : En) (ga : Option Addr) (gc n : Nat) (zs : List En) (wx : World) : Prop where
  own : Es s0 ga gc zs wx
  ln : zs.length = n
  jn : Jn jb d e wx
  bel : Below s0 W wx
  sz : s0 ≤ wx.heap.size
variable {W wx : World} {s0 : Nat} {e : En} {ga : Option Addr} {gc n : Nat} {zs : List En}
theorem Mk.put {k : Nat} (h : Mk W s0 jb d e ga gc n zs wx) (hk : k < n) : ∃ g, ga = some ⟨g, 0, none⟩ ∧ ((∃ e, wx.cell? ⟨g, k * 2, none⟩ = some (.int .i64 e) ∧ ∃ t, wx.cell? ⟨g, k * 2 + 1, none⟩ = some (.string t) ∧ ∀ x, (wx.setCell ⟨g, k * 2, none⟩ x).cell? ⟨g, k * 2 + 1, none⟩ = some (.string t)) ∧ wx.frozen? ⟨g, k * 2, none⟩ = false ∧ (∀ x, (wx.setCell ⟨g, k * 2, none⟩ x).frozen? ⟨g, k * 2 + 1, none⟩ = false)) ∧ Mk W s0 jb d e ga gc n (zs.set k em) ((wx.setCell ⟨g, k * 2, none⟩ (.int .i64 99)).setCell ⟨g, k * 2 + 1, none⟩ (.string ⟨#[109, 97, 114, 107]⟩)) := by
  have hl := h.ln
  obtain ⟨g, rfl⟩ : ∃ g, ga = some ⟨g, 0, none⟩ := by
    rcases h.own.row.2 with ⟨hv, h0⟩ | ⟨g, cap', cur, hv, _⟩
    · omega
    · simp only [Value.slice.injEq] at hv
      exact ⟨g, hv.1⟩
  have row := h.own.row
  have kd := (own_kind h.own (j := g) ⟨_, rfl, rfl⟩)
  obtain ⟨h1, h2, h3⟩ := A.row_int (k := k) row (by omega)
  have tt : Turn (fun j => j = g) wx ((wx.setCell ⟨g, k * 2, none⟩ (.int .i64 99)).setCell ⟨g, k * 2 + 1, none⟩ (.string ⟨#[109, 97, 114, 107]⟩)) := (turn_b g _ _ wx).trans (turn_b g _ _ _)
  refine ⟨g, rfl, ⟨h1, h2, h3⟩, ⟨?_⟩, by rw [List.length_set]; exact hl, h.jn.kept tt (fun q => ?_), h.bel.trans (tt.below (fun j hj => by rw [hj]; exact kd.1) h.sz), Nat.le_trans h.sz tt.size⟩
  · have := A.row_put row (k := k) (by omega) em
    rw [List.length_set]
    exact this
  · obtain ⟨cs, hh⟩ := kd.2
    exact cells_ne h.jn.hp hh (by decide) q
theorem Mk.more {x : En} {gg cap' : Nat} (h : Mk W s0 jb d e ga gc n zs wx) (o : Own 2 24 En.arr s0 (.slice (some ⟨gg, 0, none⟩) (zs ++ [x]).length cap') (zs ++ [x]) w1) (u : Turn (At ga) wx w1) : Mk W s0 jb d e (some ⟨gg, 0, none⟩) cap' (n + 1) (zs ++ [x]) w1 :=
  ⟨o, by rw [List.length_append, h.ln]; rfl, h.jn.kept u (fun q => by
    obtain ⟨_, cs, hh⟩ := own_kind h.own q
    exact cells_ne h.jn.hp hh (by decide) rfl), h.bel.trans (h.own.keep u h.sz), Nat.le_trans h.sz u.size⟩
end J
end Go.Proofs.Ytihdagehenmolaa
