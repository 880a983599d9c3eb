import Derived.Test.YtbbopkhgmgdlfaaOwn
set_option linter.unusedVariables false
set_option linter.unusedSimpArgs false
namespace Go.Proofs.Ytbbopkhgmgdlfaa
open Go.RowKit
namespace F
open M
variable {w w' : World}
/-- one thing more in a row: what turns is the row's block, and new ones -/
theorem wpList_more {t e m bytes : Nat} {z : Value} (ht : Try.prog.underlying t = some (.slice e)) (hinf : (Try.prog.info? e).map (fun i => (i.zero, i.size, i.bytes)) = some (some z, m, bytes)) (hz : z.cells.size = m) (hm : 0 < m) (hby : bytes ≤ 40) (w : World) {ops : Array Oper} {rest : List Oper} {o : Oper} {a : Act} {Q : Exit → Act → World → Prop} (hgd : o.guard = none) (s y : Operand)
    (ho : o.op = .call { callee := .builtin .append, args := #[s, y], argTypes := #[t, t] }) {B : Nat} {ro : Option Addr} {rc k : Nat} {xs : List Value} (hrow : w.ownsRow B e m (.slice ro k rc) k xs) (hl : k < 3000000000000) (hB : B ≤ w.heap.size) (cs : List Value) (hcl : cs.length = m) (h1 : ∀ u ∈ cs, u.oneCell' = true) (c : Nat) (hs : a.eval s = .slice ro k rc) (hx : a.eval y = .slice (some ⟨w.heap.size, 0, none⟩) 1 c)
    (hk : ∀ gg cap' w1, w1.ownsRow B e m (.slice (some ⟨gg, 0, none⟩) (k + 1) cap') (k + 1) (xs ++ cs) → Turn (At ro) w w1 → (At ro gg ∨ w.heap.size ≤ gg) → wpList Try.prog ops Q rest (a.put o.dst (.slice (some ⟨gg, 0, none⟩) (k + 1) cap')) w1) :
    wpList Try.prog ops Q (o :: rest) a (w.alloc (.cells cs.toArray e)) := by
  obtain ⟨i0, hi0, hz0, hz1, hz2⟩ := info_parts hinf
  refine wpList_append_lies _ hgd s y t ho B e i0 _ m bytes ht hi0 hz0 hz1 hz2 hz hm _ k xs hs (World.ownsRow.alloc hrow _) ⟨w.heap.size, 0, none⟩ 1 c cs hx (by omega) (fun j u hj => World.news_of_block (heap_alloc_new w (.cells cs.toArray e)) j u (by simpa using hj)) h1 (by omega) (by unfold maxLen; omega) (Nat.le_trans (Nat.mul_le_mul_left _ hby) (by omega)) (by simp; omega) (w.heap.size + 1) (by simp) ?_
  intro gg cap' w1 hown1 hgrow hat hlt
  have t0 : Turn (At ro) w w1 := ((Turn.refl _ w).alloc _).grown hgrow (fun k hk _ => own_at hk)
  refine hk gg cap' w1 hown1 t0 ?_
  rcases hat with q | q
  · exact .inl (own_at q)
  · exact .inr (by omega)
theorem row_put {g rc n k : Nat} {B : Nat} {zs : List Int} (h : w.ownsRow B 3 1 (.slice (some ⟨g, 0, none⟩) n rc) n (ivs zs)) (hk : k < n) (v : Int) : (w.setCell ⟨g, k, none⟩ (.int .i64 v)).ownsRow B 3 1 (.slice (some ⟨g, 0, none⟩) n rc) n (ivs (zs.set k v)) := by
  refine ⟨by rw [ivs, List.length_map, List.length_set]; have := h.1; rw [ivs, List.length_map] at this; exact this, ?_⟩
  rcases h.2 with ⟨hv, _⟩ | ⟨g', cap', cur, hv, hb, hg', h1, h2, h3, h4⟩
  · cases hv
  · simp only [Value.slice.injEq, Option.some.injEq] at hv
    obtain ⟨hv1, _, rfl⟩ := hv
    cases hv1
    refine .inr ⟨g, rc, cur.setIfInBounds k (.int .i64 v), rfl, hb, set_block hg', h1, h2, by simpa using h3, ?_⟩
    rw [Array.toList_setIfInBounds, List.take_set, h4]
    simp [ivs, List.map_set]
theorem turn_at {g k : Nat} {v : Value} : Turn (At (some ⟨g, 0, none⟩)) w (w.setCell ⟨g, k, none⟩ v) := (Turn.refl _ w).setCell (p := ⟨g, k, none⟩) (fun _ => ⟨_, rfl, rfl⟩) _
end F
end Go.Proofs.Ytbbopkhgmgdlfaa
