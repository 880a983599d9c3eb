import Derived.Test.YtfeehnfpfheojaaFil
set_option linter.unusedVariables false
set_option linter.unusedSimpArgs false
namespace Go.Proofs.Ytfeehnfpfheojaa
open Go.RowKit
namespace M
variable {D : Nat → Prop} {B x : Nat} {ws : List Int} {tr : List Ac} {bad : Nat} {w w' : World}
def ivs (zs : List Int) : List Value := zs.map fun v => Value.int .i64 v
/-- a list of words in the making -/
structure Ls (B lb : Nat) (ro : Option Addr) (rc : Nat) (zs : List Int) (w : World) : Prop where
  hl : w.heap[lb]? = some (.cells #[.slice ro zs.length rc] 139 (0, 0))
  row : w.ownsRow B 3 1 (.slice ro zs.length rc) zs.length (ivs zs)
  lo : B ≤ lb
variable {lb : Nat} {ro : Option Addr} {rc : Nat} {zs : List Int}
theorem Ls.lt (h : Ls B lb ro rc zs w) : lb < w.heap.size := lt_of_heap h.hl
theorem Ls.at (h : Ls B lb ro rc zs w) {j : Nat} (hj : At ro j) : j ≠ lb ∧ B ≤ j ∧ j < w.heap.size := by
  obtain ⟨a, rfl, rfl⟩ := hj
  rcases h.row.2 with ⟨hv, _⟩ | ⟨g', cap', cur, hv, hb, hg', _⟩
  · cases hv
  · simp only [Value.slice.injEq, Option.some.injEq] at hv
    obtain ⟨rfl, _, _⟩ := hv
    exact ⟨cells_ne hg' h.hl (by decide), hb, lt_of_heap hg'⟩
theorem take_core {v : Int} {gg cap' : Nat} {w0 w1 : World} (h : Ls B lb ro rc zs w) (hB : B ≤ w.heap.size) (hb0 : Below w.heap.size w w0) (hown1 : w1.ownsRow B 3 1 (.slice (some ⟨gg, 0, none⟩) (zs.length + 1) cap') (zs.length + 1) (ivs zs ++ [.int .i64 v]))
    (hgrow : w0.grownBy w1 (Value.slice ro zs.length rc).ownBlock) (hat : (Value.slice ro zs.length rc).ownBlock = some gg ∨ gg = w0.heap.size) :
    Ls B lb (some ⟨gg, 0, none⟩) cap' (zs ++ [v]) (w1.setCell ⟨lb, 0, none⟩ (.slice (some ⟨gg, 0, none⟩) (zs.length + 1) cap')) ∧ Below B w (w1.setCell ⟨lb, 0, none⟩ (.slice (some ⟨gg, 0, none⟩) (zs.length + 1) cap')) := by
  have hgb : At ro gg ∨ w.heap.size ≤ gg := by
    rcases hat with q | q
    · exact .inl (own_at q)
    · exact .inr (by rw [q]; exact hb0.size)
  have hne : gg ≠ lb := by
    rcases hgb with q | q
    · exact (h.at q).1
    · have := h.lt; omega
  have t0 : Turn (At ro) w w1 := ((turn_below hb0)).grown hgrow (fun k hk _ => own_at hk)
  have hx1 := (t0.block lb h.lt (fun q => (h.at q).1 rfl)).trans h.hl
  have t1 : Turn (fun k => k = lb) w1 (w1.setCell ⟨lb, 0, none⟩ (.slice (some ⟨gg, 0, none⟩) (zs.length + 1) cap')) := (Turn.refl (fun k => k = lb) w1).setCell (p := ⟨lb, 0, none⟩) (fun _ => rfl) _
  refine ⟨⟨?_, ?_, h.lo⟩, ?_⟩
  · rw [List.length_append]; exact set_block hx1
  · rw [List.length_append, ivs, List.map_append]
    have := t1.row hown1 (fun j hj e => by
      have : gg = j := by simpa [Value.ownBlock] using hj
      omega)
    simpa [ivs] using this
  · exact ((t0.mono (S' := fun j => At ro j ∨ j = lb) (fun k _ q => .inl q)).trans (t1.mono (fun k _ e => .inr e))).below (fun j hj => by
      rcases hj with q | q
      · exact (h.at q).2.1
      · rw [q]; exact h.lo) hB
set_option maxRecDepth 100000 in
set_option maxHeartbeats 4000000 in
theorem take_one (v : Int) (g i : Nat) (h : Ls B lb ro rc zs w) (hl : zs.length ≤ 65536) (hB : B ≤ w.heap.size) (hg : g < B) (hc : w.cell? ⟨g, i, none⟩ = some (.int .i64 v)) :
    Calls Try.prog 77 #[.pointer (some ⟨lb, 0, none⟩), .pointer (some ⟨g, i, none⟩)] w fun e w' => e = .returned (.tuple #[]) ∧ ∃ ro' rc', Ls B lb ro' rc' (zs ++ [v]) w' ∧ Below B w w' := by
  obtain ⟨i0, hi0, hz0, hz1, hz2⟩ := info_parts info3
  have c1 : w.cell? ⟨lb, 0, none⟩ = some (.slice ro zs.length rc) := by rw [Lib.cell_of_heap h.hl]; rfl
  have f1 : w.frozen? ⟨lb, 0, none⟩ = false := Lib.frozen_of_heap h.hl 0
  have lt := h.lt
  have lo := h.lo
  have row := h.row
  have n1 : Hid (zs.length + 1 ≤ maxLen) := (show zs.length + 1 ≤ maxLen by unfold maxLen; omega)
  have n2 : Hid ((zs.length + 1) * 8 ≤ 140737488355328) := (show (zs.length + 1) * 8 ≤ 140737488355328 by omega)
  have ne : some lb ≠ (Value.slice ro zs.length rc).ownBlock := fun q => (h.at (own_at q.symm)).1 rfl
  have new2 : ∀ o, (w.alloc o).drew.heap[w.heap.size]? = some o := fun o => heap_alloc_new w o
  have new1 := World.new_ne w ⟨lb, 0, none⟩ c1
  have newg := World.new_ne w ⟨g, i, none⟩ hc
  have H := hide' h
  have fal : ∀ o, (w.alloc o).drew.frozen? ⟨lb, 0, none⟩ = false := fun o => (World.frozen?_of_block (w := w) (Below.heap_alloc _ _ _ lt)).trans f1
  have cal : ∀ o, (w.alloc o).drew.cell? ⟨lb, 0, none⟩ = some (.slice ro zs.length rc) := fun o => (World.cell?_of_block (w := w) (Below.heap_alloc _ _ _ lt)).trans c1
  have hglt : g < w.heap.size := by omega
  clear hl h
  go_enter Try.func77, Try.ntmps77
  go_wp2_with fail
  go_region_law ((refine step_append_lies _ (by rfl) _ _ _ (by rfl) B 3 i0 _ 1 8 Try.underlying139 hi0 hz0 hz1 hz2 rfl (by omega) (.slice ro zs.length rc) zs.length (ivs zs) (by rfl) ((row.alloc _).drew) ⟨w.heap.size, 0, none⟩ 1 1 [.int .i64 v] (by rfl) (by rfl) (World.news_of_block (cs := #[.int .i64 v]) (t := 3) (fr := (0, 0)) (new2 _)) (by simp [Value.oneCell']) (by omega) n1.out n2.out (by simp; omega) (w.heap.size + 1) (by simp) ?_; intro gg cap' w1 hown1 hgrow hat hlt; have a0 := (hgrow.cell_far ⟨lb, 0, none⟩ (by simp; omega) ne).trans (cal _); have a0f := (hgrow.frozen_far ⟨lb, 0, none⟩ (by simp; omega) ne).trans (fal _)))
  all_goals
    have hb0 : Below w.heap.size w (w.alloc (.cells #[.int .i64 v] 3)).drew := ((Below.refl _ _).alloc (Nat.le_refl _) _).drew
    obtain ⟨L1, S1⟩ := take_core H.out hB hb0 hown1 hgrow (by simpa using hat)
    generalize (w1.setCell ⟨lb, 0, none⟩ (.slice (some ⟨gg, 0, none⟩) (zs.length + 1) cap')) = W at *
    have K := hide' (And.intro L1 S1)
    clear L1 S1 a0 a0f hown1 hgrow hat hlt c1 f1 fal cal new1 row ne new2 hb0
    go_wp2
    go_end0
    exact ⟨rfl, _, _, K.out.1, K.out.2⟩
end M
end Go.Proofs.Ytfeehnfpfheojaa
