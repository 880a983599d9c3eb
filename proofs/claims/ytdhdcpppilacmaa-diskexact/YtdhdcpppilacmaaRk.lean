import Derived.Test.YtdhdcpppilacmaaOp
import Derived.Deep.RegionLaw
set_option linter.unusedVariables false
set_option linter.unusedSimpArgs false
namespace Go.Proofs.Ytdhdcpppilacmaa
open Go.RowKit
namespace K
open M
abbrev By := UInt8 × Bool
def bb (x : By) : Array Value := #[.int .u8 (x.1.toNat : Int), .bool x.2]
theorem ha_bb (q : By) : (bb q).size = 2 := rfl
theorem info59 : (Try.prog.info? 59).map (fun i => (i.zero, i.size, i.bytes)) = some (some (.agg #[.int .u8 0, .bool false]), 2, 2) := by kernel_rfl
/-- BLOCK c IS THE DOCUMENT'S DISK -/
structure Rr (B c : Nat) (room : Int) (ss : List By) (ao : Option Addr) (cap : Nat) (w : World) : Prop where
  hp : w.heap[c]? = some (.cells #[.int .i64 room, .slice ao ss.length cap] 57 (0, 0))
  row : Own 2 59 bb B (.slice ao ss.length cap) ss w
  hb : B ≤ c
  hr : (ss.length : Int) ≤ room
  hm : room ≤ 1048576
variable {B c cap : Nat} {room : Int} {ss : List By} {ao : Option Addr} {w w' : World}
theorem Rr.c0 (q : Rr B c room ss ao cap w) : w.cell? ⟨c, 0, none⟩ = some (.int .i64 room) := by rw [Lib.cell_of_heap q.hp]; rfl
theorem Rr.c1 (q : Rr B c room ss ao cap w) : w.cell? ⟨c, 1, none⟩ = some (.slice ao ss.length cap) := by rw [Lib.cell_of_heap q.hp]; rfl
theorem Rr.f (q : Rr B c room ss ao cap w) (j : Nat) : w.frozen? ⟨c, j, none⟩ = false := Lib.frozen_of_heap q.hp j
theorem Rr.lt (q : Rr B c room ss ao cap w) : c < w.heap.size := lt_of_heap q.hp
theorem Rr.below (q : Rr B c room ss ao cap w) (t : Below w.heap.size w w') : Rr B c room ss ao cap w' := ⟨(t.block c q.lt).trans q.hp, q.row.below t, q.hb, q.hr, q.hm⟩
theorem Rr.na (q : Rr B c room ss ao cap w) : ¬ At ao c := fun h => by
  obtain ⟨cs, e⟩ := (own_kind q.row h).2
  exact cells_ne q.hp e (by decide) rfl
theorem Rr.in (q : Rr B c room ss ao cap w) {j : Nat} (hj : DB c ao j) : B ≤ j ∧ j < w.heap.size := by
  rcases hj with rfl | hj
  · exact ⟨q.hb, q.lt⟩
  · obtain ⟨h, cs, e⟩ := own_kind q.row hj
    exact ⟨h, lt_of_heap e⟩
theorem Rr.kept {S : Nat → Prop} (q : Rr B c room ss ao cap w) (t : Turn S w w') (hn : ∀ j, DB c ao j → ¬ S j) : Rr B c room ss ao cap w' :=
  ⟨(t.block c q.lt (hn _ (.inl rfl))).trans q.hp, q.row.kept t (fun g hg => hn g (.inr (own_at hg))), q.hb, q.hr, q.hm⟩
theorem Rr.mono {B' : Nat} (q : Rr B c room ss ao cap w) (h : B' ≤ B) : Rr B' c room ss ao cap w := ⟨q.hp, Own.mono q.row h, Nat.le_trans h q.hb, q.hr, q.hm⟩
theorem Rr.new (w : World) {room : Int} (h0 : 0 ≤ room) (h1 : room ≤ 1048576) : Rr w.heap.size w.heap.size room [] none 0 (w.alloc (.cells #[.int .i64 room, .slice none 0 0] 57)) :=
  ⟨heap_alloc_new _ _, own_nil 2 59 bb _ _, Nat.le_refl _, h0, h1⟩
theorem Rr.cells (q : Rr B c room ss ao cap w) {k : Nat} {x : By} (hx : ss[k]? = some x) : ∃ g, ao = some ⟨g, 0, none⟩ ∧ w.cell? ⟨g, 0 + k * 2, none⟩ = some (.int .u8 (x.1.toNat : Int)) ∧ w.cell? ⟨g, 0 + k * 2 + 1, none⟩ = some (.bool x.2) ∧ w.frozen? ⟨g, 0 + k * 2 + 1, none⟩ = false := by
  have hk := (List.getElem?_eq_some_iff.1 hx).1
  rcases q.row.row.2 with ⟨hv, h0⟩ | ⟨g, cap', cur, hv, hb, hg, _⟩
  · omega
  · simp only [Value.slice.injEq] at hv
    obtain ⟨rfl, _, _⟩ := hv
    have r := q.row.row
    rw [Nat.zero_add]
    refine ⟨g, rfl, ?_, ?_, Lib.frozen_of_heap hg _⟩
    · have := flat_at ha_bb ss k 0 x (by omega) hx
      rw [r.cellAt (k * 2) (by omega)]; exact this
    · have := flat_at ha_bb ss k 1 x (by omega) hx
      rw [r.cellAt (k * 2 + 1) (by omega)]; exact this
/-- what a call leaves -/
def RT (B c : Nat) (room : Int) (ss : List By) (ao : Option Addr) (w w' : World) (ao' : Option Addr) (cap' : Nat) : Prop := Rr B c room ss ao' cap' w' ∧ Turn (DB c ao) w w' ∧ (∀ j, DB c ao' j → DB c ao j ∨ w.heap.size ≤ j)
theorem Rr.core (q : Rr B c room ss ao cap w) {x : By} {gg cap' : Nat} {w0 w1 : World} (hb0 : Below w.heap.size w w0) (hown1 : w1.ownsRow B 59 2 (.slice (some ⟨gg, 0, none⟩) (ss.length + 1) cap') (ss.length + 1) (flat bb ss ++ (bb x).toList))
    (hgrow : w0.grownBy w1 (Value.slice ao ss.length cap).ownBlock) (hat : (Value.slice ao ss.length cap).ownBlock = some gg ∨ w.heap.size ≤ gg) (hl : (ss.length : Int) + 1 ≤ room) :
    RT B c room (ss ++ [x]) ao w (w1.setCell ⟨c, 1, none⟩ (.slice (some ⟨gg, 0, none⟩) (ss.length + 1) cap')) (some ⟨gg, 0, none⟩) cap' := by
  have hgb : At ao gg ∨ w.heap.size ≤ gg := by
    rcases hat with q | q
    · exact .inl (own_at q)
    · exact .inr q
  have hne : gg ≠ c := by
    rcases hgb with r | r
    · intro e; rw [e] at r; exact q.na r
    · have := q.lt; omega
  have t0 : Turn (At ao) w w1 := ((turn_below hb0)).grown hgrow (fun k hk _ => own_at hk)
  have hx1 := (t0.block c q.lt q.na).trans q.hp
  have t1 := turn_b c 1 (.slice (some ⟨gg, 0, none⟩) (ss.length + 1) cap') w1
  refine ⟨⟨?_, ⟨?_⟩, q.hb, ?_, q.hm⟩, ?_, ?_⟩
  · rw [List.length_append, set_block hx1]; rfl
  · rw [List.length_append, flat_add, show flat bb [x] = (bb x).toList by simp [flat]]
    exact t1.row hown1 (fun j hj e => by
      have : gg = j := by simpa [Value.ownBlock] using hj
      omega)
  · rw [List.length_append]; simp; omega
  · exact (t0.mono (fun k _ q => Or.inr q)).trans (t1.mono (fun k _ e => .inl e))
  · intro j hj
    rcases hj with hj | ⟨a, ha, rfl⟩
    · exact .inl (.inl hj)
    · cases ha
      rcases hgb with r | r
      · exact .inl (.inr r)
      · exact .inr r
theorem RT.then {ao1 ao2 : Option Addr} {cap1 cap2 : Nat} {ss1 ss2 : List By} {w1 w2 : World} (a : RT B c room ss1 ao w w1 ao1 cap1) (b : RT B c room ss2 ao1 w1 w2 ao2 cap2) : RT B c room ss2 ao w w2 ao2 cap2 := by
  refine ⟨b.1, a.2.1.then b.2.1 (fun i hi h => ?_), fun j hj => ?_⟩
  · rcases a.2.2 i h with q | q
    · exact q
    · omega
  · rcases b.2.2 j hj with q | q
    · exact a.2.2 j q
    · exact .inr (Nat.le_trans a.2.1.size q)
theorem RT.refl (q : Rr B c room ss ao cap w) : RT B c room ss ao w w ao cap := ⟨q, Turn.refl _ _, fun j hj => .inl hj⟩
/-- texts as bytes that are safe or not -/
def tg (f : Bool) (t : List UInt8) : List By := t.map fun b => (b, f)
theorem tg_take {f : Bool} {t : List UInt8} {k : Nat} {z : UInt8} (h : t[k]? = some z) : tg f (t.take (k + 1)) = tg f (t.take k) ++ [(z, f)] := by
  unfold tg
  rw [List.take_add_one, h]; simp
theorem index_sb {t : List UInt8} {k : Nat} {z : UInt8} (h : t[k]? = some z) (w : World) : (Instr.index 9 (.string (sb t)) (.int .i64 (k : Int))).run Try.prog w = .ok (.int .u8 (z.toNat : Int)) w := by
  have hk := (List.getElem?_eq_some_iff.1 h).1
  have hs := sb_size t
  rw [run_index_string w 9 (sb t) .i64 (k : Int) Try.underlying9, dif_pos ⟨by omega, by omega⟩]
  have e : (sb t)[(k : Int).toNat]'(by rw [hs]; omega) = z := by
    have := (List.getElem?_eq_some_iff.1 h).2
    rw [← this]
    show (sb t).data[(k : Int).toNat] = _
    simp [sb]
  rw [e]
theorem sb_at {t : List UInt8} {k : Nat} {z : UInt8} (h : t[k]? = some z) : (sb t).data[k]? = some z := by simp [sb, h]
end K
end Go.Proofs.Ytdhdcpppilacmaa
