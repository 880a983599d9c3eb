import Derived.Test.YtfeehnfpfheojaaFndW
import Derived.Test.YtfeehnfpfheojaaOmp
import Derived.Test.YtfeehnfpfheojaaFil
import Derived.Test.YtfeehnfpfheojaaWds
set_option linter.unusedVariables false
set_option linter.unusedSimpArgs false
namespace Go.Proofs.Ytfeehnfpfheojaa
open Go.RowKit Go.Sort
theorem M.Mem.kind {D : Nat → Prop} {B x : Nat} {ws : List Int} {tr : List M.Ac} {bad : Nat} {w : World} (H : M.Mem D B x ws tr bad w) {j : Nat} (hj : D j) : ∃ c t, w.heap[j]? = some (.cells c t (0, 0)) ∧ (t = 137 ∨ t = 3 ∨ t = 152) := by
  obtain ⟨_, g, ao, cap, hm, hd⟩ := H
  rcases (hd j).1 hj with rfl | rfl | ⟨a, rfl, rfl⟩
  · exact ⟨_, _, hm.hx, .inl rfl⟩
  · exact ⟨_, _, hm.hg, .inr (.inl rfl)⟩
  · rcases hm.row.2 with ⟨hv, _⟩ | ⟨g', cap', cur, hv, hb, hg', _⟩
    · cases hv
    · simp only [Value.slice.injEq, Option.some.injEq] at hv
      obtain ⟨rfl, _, _⟩ := hv
      exact ⟨_, _, hg', .inr (.inr rfl)⟩
theorem M.Mem.not {D : Nat → Prop} {B x : Nat} {ws : List Int} {tr : List M.Ac} {bad : Nat} {w : World} (H : M.Mem D B x ws tr bad w) {b : Nat} {c : Array Value} {t : TypeId} {r : Nat × Nat} (hb : w.heap[b]? = some (.cells c t r)) (h1 : t ≠ 137) (h2 : t ≠ 3) (h3 : t ≠ 152) : ¬ D b := by
  intro q
  obtain ⟨c', t', e, ht⟩ := H.kind q
  rw [hb] at e
  cases e
  rcases ht with rfl | rfl | rfl
  · exact h1 rfl
  · exact h2 rfl
  · exact h3 rfl
namespace Ar
open Fr
/-- THE PARTS OF AN ARENA: its block, its memory, its free pieces, its map of what is out -/
structure Ap (DM DF : Nat → Prop) (B ab x h bm : Nat) (ws : List Int) (tr : List M.Ac) (bad : Nat) (F : List Bk) (O : List (Int × Int)) (cnt : Nat) (w : World) : Prop where
  ha : w.heap[ab]? = some (.cells #[.pointer (some ⟨x, 0, none⟩), .pointer (some ⟨h, 0, none⟩), .map (some bm)] 135 (0, 0))
  mem : M.Mem DM B x ws tr bad w
  fr : Fr DF B h F cnt w
  om : Oo.Om bm O w
  la : B ≤ ab
  lb : B ≤ bm
def Own (DM DF : Nat → Prop) (ab bm j : Nat) : Prop := DM j ∨ DF j ∨ j = ab ∨ j = bm
variable {DM DF : Nat → Prop} {B ab x h bm : Nat} {ws : List Int} {tr : List M.Ac} {bad : Nat} {F : List Bk} {O : List (Int × Int)} {cnt : Nat} {w w' : World}
theorem om_not {j : Nat} {c : Array Value} {t : TypeId} {r : Nat × Nat} (h : Oo.Om bm O w) (hj : w.heap[j]? = some (.cells c t r)) : j ≠ bm := fun e => h.ne hj e.symm
/-- the parts lie apart -/
theorem Ap.mf (A : Ap DM DF B ab x h bm ws tr bad F O cnt w) {j : Nat} (h1 : DM j) : ¬ DF j ∧ j ≠ ab ∧ j ≠ bm := by
  obtain ⟨c, t, e, ht⟩ := A.mem.kind h1
  refine ⟨A.fr.not e ?_ ?_, cells_ne e A.ha ?_, om_not A.om e⟩
  all_goals rcases ht with rfl | rfl | rfl <;> decide
theorem Ap.ff (A : Ap DM DF B ab x h bm ws tr bad F O cnt w) {j : Nat} (h1 : DF j) : ¬ DM j ∧ j ≠ ab ∧ j ≠ bm := by
  obtain ⟨c, t, e, ht⟩ := A.fr.kind h1
  refine ⟨A.mem.not e ?_ ?_ ?_, cells_ne e A.ha ?_, om_not A.om e⟩
  all_goals rcases ht with rfl | rfl <;> decide
theorem Ap.aa (A : Ap DM DF B ab x h bm ws tr bad F O cnt w) : ¬ DM ab ∧ ¬ DF ab ∧ ab ≠ bm := ⟨A.mem.not A.ha (by decide) (by decide) (by decide), A.fr.not A.ha (by decide) (by decide), om_not A.om A.ha⟩
theorem Ap.lt (A : Ap DM DF B ab x h bm ws tr bad F O cnt w) {j : Nat} (hj : Own DM DF ab bm j) : B ≤ j ∧ j < w.heap.size := by
  rcases hj with q | q | rfl | rfl
  · exact A.mem.lo q
  · exact A.fr.lo q
  · exact ⟨A.la, lt_of_heap A.ha⟩
  · exact ⟨A.lb, A.om.lt⟩
theorem Ap.kept {S : Nat → Prop} (A : Ap DM DF B ab x h bm ws tr bad F O cnt w) (t : Turn S w w') (hn : ∀ j, Own DM DF ab bm j → ¬ S j) : Ap DM DF B ab x h bm ws tr bad F O cnt w' :=
  ⟨(t.block ab (lt_of_heap A.ha) (hn _ (.inr (.inr (.inl rfl))))).trans A.ha, A.mem.kept t (fun j q => hn j (.inl q)), A.fr.kept t (fun j q => hn j (.inr (.inl q))), A.om.kept t (hn _ (.inr (.inr (.inr rfl)))), A.la, A.lb⟩
theorem Ap.below (A : Ap DM DF B ab x h bm ws tr bad F O cnt w) (t : Below w.heap.size w w') : Ap DM DF B ab x h bm ws tr bad F O cnt w' := A.kept (turn_below (S := fun _ => False) t) (fun _ _ q => q)
theorem Ap.c0 (A : Ap DM DF B ab x h bm ws tr bad F O cnt w) : w.cell? ⟨ab, 0, none⟩ = some (.pointer (some ⟨x, 0, none⟩)) := by rw [Lib.cell_of_heap A.ha]; rfl
theorem Ap.c1 (A : Ap DM DF B ab x h bm ws tr bad F O cnt w) : w.cell? ⟨ab, 1, none⟩ = some (.pointer (some ⟨h, 0, none⟩)) := by rw [Lib.cell_of_heap A.ha]; rfl
theorem Ap.c2 (A : Ap DM DF B ab x h bm ws tr bad F O cnt w) : w.cell? ⟨ab, 2, none⟩ = some (.map (some bm)) := by rw [Lib.cell_of_heap A.ha]; rfl
/-- an arena over the memory x, and the blocks that are their own -/
def Arn (D : Nat → Prop) (B ab x : Nat) (ws : List Int) (tr : List M.Ac) (bad : Nat) (F : List Bk) (O : List (Int × Int)) (cnt : Nat) (w : World) : Prop := ∃ DM DF h bm, Ap DM DF B ab x h bm ws tr bad F O cnt w ∧ ∀ j, D j ↔ Own DM DF ab bm j
def ATo (D : Nat → Prop) (B ab x : Nat) (ws : List Int) (tr : List M.Ac) (bad : Nat) (F : List Bk) (O : List (Int × Int)) (cnt : Nat) (w w' : World) : Prop := ∃ D', Arn D' B ab x ws tr bad F O cnt w' ∧ Turn D w w' ∧ ∀ j, D' j → D j ∨ w.heap.size ≤ j
variable {D : Nat → Prop}
theorem Arn.lo (H : Arn D B ab x ws tr bad F O cnt w) {j : Nat} (hj : D j) : B ≤ j ∧ j < w.heap.size := by
  obtain ⟨DM, DF, h, bm, A, hd⟩ := H
  exact A.lt ((hd j).1 hj)
theorem Arn.base (H : Arn D B ab x ws tr bad F O cnt w) : B ≤ w.heap.size := by
  obtain ⟨DM, DF, h, bm, A, hd⟩ := H
  exact A.mem.base
theorem Arn.kept {S : Nat → Prop} (H : Arn D B ab x ws tr bad F O cnt w) (t : Turn S w w') (hn : ∀ j, D j → ¬ S j) : Arn D B ab x ws tr bad F O cnt w' := by
  obtain ⟨DM, DF, h, bm, A, hd⟩ := H
  exact ⟨DM, DF, h, bm, A.kept t (fun j q => hn j ((hd j).2 q)), hd⟩
theorem Arn.below (H : Arn D B ab x ws tr bad F O cnt w) (t : Below w.heap.size w w') : Arn D B ab x ws tr bad F O cnt w' := H.kept (turn_below (S := fun _ => False) t) (fun _ _ q => q)
/-- the free pieces have turned -/
theorem Ap.freed {F1 : List Bk} {c1 : Nat} (A : Ap DM DF B ab x h bm ws tr bad F O cnt w) (T : FTo DF B h F1 c1 w w') : ∃ DF', Ap DM DF' B ab x h bm ws tr bad F1 O c1 w' ∧ Turn DF w w' ∧ ∀ j, DF' j → DF j ∨ w.heap.size ≤ j := by
  obtain ⟨DF', f, t, s⟩ := T
  exact ⟨DF', ⟨(t.block ab (lt_of_heap A.ha) A.aa.2.1).trans A.ha, A.mem.kept t (fun j q => (A.mf q).1), f, A.om.kept t (fun q => (A.ff q).2.2 rfl), A.la, A.lb⟩, t, s⟩
/-- the words have turned -/
theorem Ap.worded {ws1 : List Int} {tr1 : List M.Ac} {bad1 : Nat} (A : Ap DM DF B ab x h bm ws tr bad F O cnt w) (m : M.Mem DM B x ws1 tr1 bad1 w') (t : Turn DM w w') : Ap DM DF B ab x h bm ws1 tr1 bad1 F O cnt w' :=
  ⟨(t.block ab (lt_of_heap A.ha) A.aa.1).trans A.ha, m, A.fr.kept t (fun j q => (A.ff q).1), A.om.kept t (fun q => (A.mf q).2.2 rfl), A.la, A.lb⟩
/-- the map has turned -/
theorem Ap.mapped {O1 : List (Int × Int)} (A : Ap DM DF B ab x h bm ws tr bad F O cnt w) (o : Oo.Om bm O1 w') (t : Turn (fun j => j = bm) w w') : Ap DM DF B ab x h bm ws tr bad F O1 cnt w' :=
  ⟨(t.block ab (lt_of_heap A.ha) A.aa.2.2).trans A.ha, A.mem.kept t (fun j q => (A.mf q).2.2), A.fr.kept t (fun j q => (A.ff q).2.2), o, A.la, A.lb⟩
/-- several steps, each of which turned own blocks or new ones -/
theorem ato_of {DF' : Nat → Prop} {ws1 : List Int} {tr1 : List M.Ac} {bad1 : Nat} {F1 : List Bk} {O1 : List (Int × Int)} {c1 : Nat} (hd : ∀ j, D j ↔ Own DM DF ab bm j) (A : Ap DM DF' B ab x h bm ws1 tr1 bad1 F1 O1 c1 w') (t : Turn (Own DM DF ab bm) w w') (s : ∀ j, DF' j → DF j ∨ w.heap.size ≤ j) : ATo D B ab x ws1 tr1 bad1 F1 O1 c1 w w' := by
  refine ⟨Own DM DF' ab bm, ⟨DM, DF', h, bm, A, fun _ => Iff.rfl⟩, t.mono (fun j _ q => (hd j).2 q), fun j hj => ?_⟩
  rcases hj with q | q | q | q
  · exact .inl ((hd j).2 (.inl q))
  · rcases s j q with r | r
    · exact .inl ((hd j).2 (.inr (.inl r)))
    · exact .inr r
  · exact .inl ((hd j).2 (.inr (.inr (.inl q))))
  · exact .inl ((hd j).2 (.inr (.inr (.inr q))))
set_option maxRecDepth 100000 in
theorem release_any (a s : Int) {F' : List Bk} (A : Ap DM DF B ab x h bm ws tr bad F O cnt w) (hp : F'.Perm (⟨a, s, true⟩ :: F)) (hl : F.length < 1099511627776) (hc : cnt < 4611686018427387904) :
    Calls Try.prog 74 #[.pointer (some ⟨ab, 0, none⟩), .int .i64 a, .int .i64 s] w fun e w' => e = .returned (.tuple #[]) ∧ FTo DF B h F' (cnt + 1) w w' := by
  have c1 := A.c1
  have HP := hide' (push_any ⟨a, s, true⟩ A.fr hp hl hc)
  clear A hp hl hc
  go_enter Try.func74, Try.ntmps74
  go_wp2_with fail
  refine HP.out.mono ?_
  rintro e w1 ⟨rfl, T⟩
  clear HP
  go_wp2
  go_end0
  exact ⟨rfl, T⟩
set_option maxRecDepth 100000 in
theorem live_any (H : Arn D B ab x ws tr bad F O cnt w) : Calls Try.prog 39 #[.pointer (some ⟨ab, 0, none⟩)] w fun e w' => e = .returned (.int .i64 (O.length : Nat)) ∧ w' = w := by
  obtain ⟨DM, DF, h, bm, A, hd⟩ := H
  have c2 := A.c2
  obtain ⟨Dm, h1, h2, h3, h4⟩ := A.om.map
  rw [← h4]
  clear A hd h2 h3 h4
  go_enter Try.func39, Try.ntmps39
  go_wp2_with (refine wpList_len_own _ rfl _ 133 rfl 3 3 Try.underlying133 _ bm _ Dm rfl h1 ?_)
  go_ret
  exact ⟨rfl, rfl⟩
end Ar
end Go.Proofs.Ytfeehnfpfheojaa
