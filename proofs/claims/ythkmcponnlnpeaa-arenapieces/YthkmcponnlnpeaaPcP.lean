import Derived.Test.YthkmcponnlnpeaaAtl
import Derived.Test.YthkmcponnlnpeaaChd
import Derived.Test.YthkmcponnlnpeaaLvy
set_option linter.unusedVariables false
set_option linter.unusedSimpArgs false
namespace Go.Proofs.Ythkmcponnlnpeaa
open Go.RowKit Go.Sort
namespace Ar
open Fr
/-- a call, as it lies -/
structure Op4 where
  kind : Int
  arena : Int
  n : Int
  value : Int
def Op4.arr (o : Op4) : Array Value := #[.int .i64 o.kind, .int .i64 o.arena, .int .i64 o.n, .int .i64 o.value]
def Op4.ok (o : Op4) : Prop := -9223372036854775808 ≤ o.n ∧ o.n ≤ 9223372036854775807
/-- a slice of calls that came in -/
def Ops (w : World) (a : Option Addr) (os : List Op4) : Prop := os = [] ∨ ∃ b off, a = some ⟨b, off, none⟩ ∧ b < w.heap.size ∧ ∀ j o, os[j]? = some o → ∀ r, r < 4 → w.cell? ⟨b, off + j * 4 + r, none⟩ = o.arr[r]?
variable {D : Nat → Prop} {B ab x : Nat} {ws : List Int} {tr : List M.Ac} {bad : Nat} {s : Int} {L : List Bk} {cb : Nat} {w w' : World}
/-- what a round holds beside the arena: the call's box, the pieces and the words as they were -/
structure Xr (n0 b : Nat) (o : Op4) (g rc : Nat) (L : List Bk) (ro : Option Addr) (rc' : Nat) (ws : List Int) (w : World) : Prop where
  hb : w.heap[b]? = some (.cells o.arr 80 (0, 0))
  lb : n0 ≤ b
  row : RowB n0 (some ⟨g, 0, none⟩) rc L w
  was : w.ownsRow n0 3 1 (.slice ro ws.length rc') ws.length (M.ivs ws)
theorem Xr.kept {n0 b : Nat} {o : Op4} {g rc : Nat} {ro : Option Addr} {rc' : Nat} {S : Nat → Prop} (X : Xr n0 b o g rc L ro rc' ws w) (t : Turn S w w') (hS : ∀ j, S j → j < n0) : Xr n0 b o g rc L ro rc' ws w' :=
  ⟨(t.block b (lt_of_heap X.hb) (fun q => by have := hS b q; have := X.lb; omega)).trans X.hb, X.lb, X.row.kept t (fun j hj q => by have := (X.row.lt hj).1; have := hS j q; omega), t.row X.was (fun j hj q => by have := (X.was.lt j hj).1; have := hS j q; omega)⟩
theorem Xr.below {n0 b : Nat} {o : Op4} {g rc : Nat} {ro : Option Addr} {rc' : Nat} (X : Xr n0 b o g rc L ro rc' ws w) (t : Below w.heap.size w w') : Xr n0 b o g rc L ro rc' ws w' := X.kept (turn_below (S := fun _ => False) t) (fun _ q => q.elim)
theorem op_cells {b : Nat} {o : Op4} (h : w.heap[b]? = some (.cells o.arr 80 (0, 0))) : w.cell? ⟨b, 0, none⟩ = some (.int .i64 o.kind) ∧ w.cell? ⟨b, 2, none⟩ = some (.int .i64 o.n) := ⟨by rw [Lib.cell_of_heap h]; rfl, by rw [Lib.cell_of_heap h]; rfl⟩
theorem RowB.mono {B' : Nat} {so : Option Addr} {sc : Nat} (h : RowB B so sc L w) (hb : B' ≤ B) : RowB B' so sc L w := World.ownsRow.mono h hb
theorem Atl.lts (H : Atl D B ab x ws tr bad s L cb w) : ∀ j, D j → j < w.heap.size := fun j q => (H.lo q).2
theorem fit_bd {e : Int} (h : Cov s L e) (h0 : 0 ≤ s) (n : Int) : -1 ≤ fit L n ∧ fit L n ≤ e := by
  unfold fit
  cases hf : L.find? (pf n) with
  | none => have := cov_le h; simp only; omega
  | some b =>
    have := cov_mem h b (List.mem_of_find?_eq_some hf)
    simp only
    omega
/-- the place, counted round -/
theorem at_lt {i n : Int} (h : 0 < n) : 0 ≤ i % n ∧ i % n < n := ⟨Int.emod_nonneg _ (by omega), Int.emod_lt_of_pos _ h⟩
end Ar
end Go.Proofs.Ythkmcponnlnpeaa
