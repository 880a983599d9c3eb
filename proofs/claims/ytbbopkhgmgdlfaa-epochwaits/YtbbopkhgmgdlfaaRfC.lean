import Derived.Test.YtbbopkhgmgdlfaaRfB
set_option linter.unusedVariables false
set_option linter.unusedSimpArgs false
namespace Go.Proofs.Ytbbopkhgmgdlfaa
open Go.RowKit
namespace F
open M
variable {D : Nat → Prop} {B x n m : Nat} {lo eo : Option Addr} {lc ec : Nat} {lg : List Wr} {ws : List Int} {tr : List Ac} {bad : Nat} {w w' : World}
/-- one number more in a row of numbers -/
theorem wpList_int (t : TypeId) (ht : Try.prog.underlying t = some (.slice 3)) (w : World) {ops : Array Oper} {rest : List Oper} {o : Oper} {a : Act} {Q : Exit → Act → World → Prop} (hgd : o.guard = none) (s y : Operand)
    (ho : o.op = .call { callee := .builtin .append, args := #[s, y], argTypes := #[t, t] }) {B : Nat} {ro : Option Addr} {rc k : Nat} {zs : List Int} (hz : zs.length = k) (hrow : w.ownsRow B 3 1 (.slice ro k rc) k (ivs zs)) (hl : k < 100000) (hB : B ≤ w.heap.size) (v : Int) (c : Nat) (hs : a.eval s = .slice ro k rc) (hx : a.eval y = .slice (some ⟨w.heap.size, 0, none⟩) 1 c)
    (hk : ∀ gg cap' w1, w1.ownsRow B 3 1 (.slice (some ⟨gg, 0, none⟩) (k + 1) cap') (k + 1) (ivs (zs ++ [v])) → Below B w w1 → wpList Try.prog ops Q rest (a.put o.dst (.slice (some ⟨gg, 0, none⟩) (k + 1) cap')) w1) :
    wpList Try.prog ops Q (o :: rest) a (w.alloc (.cells #[.int .i64 v] 3)) := by
  obtain ⟨i0, hi0, hz0, hz1, hz2⟩ := info_parts info3
  refine wpList_append_lies _ hgd s y t ho B 3 i0 _ 1 8 ht hi0 hz0 hz1 hz2 rfl (by omega) _ k (ivs zs) hs (World.ownsRow.alloc hrow _) ⟨w.heap.size, 0, none⟩ 1 c [.int .i64 v] hx rfl (World.news_of_block (cs := #[.int .i64 v]) (t := 3) (fr := (0, 0)) (heap_alloc_new _ _)) (by simp [Value.oneCell']) (by omega) (by unfold maxLen; omega) (by omega) (by simp; omega) (w.heap.size + 1) (by simp) ?_
  intro gg cap' w1 hown1 hgrow hat hlt
  have t0 : Turn (At ro) w w1 := ((Turn.refl _ w).alloc _).grown hgrow (fun k hk _ => own_at hk)
  exact hk gg cap' w1 (by rw [ivs, List.map_append]; exact hown1) (t0.below (fun j hj => (row_at hrow hj).1) hB)
end F
end Go.Proofs.Ytbbopkhgmgdlfaa
