import Derived.Test.YtfeehnfpfheojaaMem
set_option linter.unusedVariables false
set_option linter.unusedSimpArgs false
namespace Go.Proofs.Ytfeehnfpfheojaa
open Go.RowKit
namespace M
variable {B x g : Nat} {ws : List Int} {ao : Option Addr} {cap : Nat} {tr : List Ac} {bad : Nat} {w w' : World}
theorem info37 : (Try.prog.info? 152).map (fun i => (i.zero, i.size, i.bytes)) = some (some (.agg #[.int .i8 0, .int .i64 0, .int .i64 0, .int .i64 0, .bool false]), 5, 40) := by kernel_rfl
theorem own_at {ao : Option Addr} {n cap j : Nat} (h : (Value.slice ao n cap).ownBlock = some j) : At ao j := by
  cases ao with
  | none => cases h
  | some a => exact ⟨a, rfl, by simpa [Value.ownBlock] using h.symm⟩
theorem at_own {ao : Option Addr} {n cap j : Nat} (h : At ao j) : (Value.slice ao n cap).ownBlock = some j := by
  obtain ⟨a, rfl, rfl⟩ := h
  rfl
/-- the trace with an entry more, in its place -/
theorem note_core {z : Ac} {gg cap' : Nat} {w0 w1 : World} (h : Me B x g ws ao cap tr bad w) (hb0 : Below w.heap.size w w0) (hown1 : w1.ownsRow B 152 5 (.slice (some ⟨gg, 0, none⟩) (tr.length + 1) cap') (tr.length + 1) (tr.flatMap Ac.cells ++ z.cells))
    (hgrow : w0.grownBy w1 (Value.slice ao tr.length cap).ownBlock) (hat : (Value.slice ao tr.length cap).ownBlock = some gg ∨ gg = w0.heap.size) :
    Me B x g ws (some ⟨gg, 0, none⟩) cap' (tr ++ [z]) bad (w1.setCell ⟨x, 1, none⟩ (.slice (some ⟨gg, 0, none⟩) (tr.length + 1) cap')) ∧ Turn (Own x g ao) w (w1.setCell ⟨x, 1, none⟩ (.slice (some ⟨gg, 0, none⟩) (tr.length + 1) cap')) ∧ (At ao gg ∨ w.heap.size ≤ gg) := by
  have hgb : At ao gg ∨ w.heap.size ≤ gg := by
    rcases hat with q | q
    · exact .inl (own_at q)
    · exact .inr (by rw [q]; exact hb0.size)
  have hne : gg ≠ x := by
    rcases hgb with q | q
    · exact (h.at q).1
    · have := h.ltx; omega
  have t0 : Turn (At ao) w w1 := ((turn_below hb0)).grown hgrow (fun k hk _ => own_at hk)
  have hx1 := (t0.block x h.ltx (fun q => (h.at q).1 rfl)).trans h.hx
  have t1 : Turn (fun k => k = x) w1 (w1.setCell ⟨x, 1, none⟩ (.slice (some ⟨gg, 0, none⟩) (tr.length + 1) cap')) := (Turn.refl (fun k => k = x) w1).setCell (p := ⟨x, 1, none⟩) (fun _ => rfl) _
  have ltg1 : g < w1.heap.size := Nat.lt_of_lt_of_le h.ltg t0.size
  refine ⟨⟨?_, ?_, ?_, h.lx, h.lg, h.pos, h.few, fun q => by simp at q⟩, ?_, hgb⟩
  · rw [List.length_append]; exact set_block hx1
  · exact (t1.block g ltg1 (fun e => h.ne e.symm)).trans ((t0.block g h.ltg (fun q => (h.at q).2.1 rfl)).trans h.hg)
  · rw [List.length_append, List.flatMap_append]
    have := t1.row hown1 (fun j hj e => by
      have : gg = j := by simpa [Value.ownBlock] using hj
      omega)
    simpa using this
  · exact (t0.mono (fun k _ q => Or.inr (Or.inr q))).trans (t1.mono (fun k _ e => .inl e))
set_option maxRecDepth 100000 in
set_option maxHeartbeats 4000000 in
/-- an entry more -/
theorem note_any (z : Ac) (h : Me B x g ws ao cap tr bad w) (hl : tr.length < 2000000000000) (hB : B ≤ w.heap.size) :
    Calls Try.prog 96 #[.pointer (some ⟨x, 0, none⟩), .agg #[.int .i8 z.kind, .int .i64 z.addr, .int .i64 z.value, .int .i64 z.old, .bool z.good]] w fun e w' => e = .returned (.tuple #[]) ∧ ∃ gg cap', Me B x g ws (some ⟨gg, 0, none⟩) cap' (tr ++ [z]) bad w' ∧ Turn (Own x g ao) w w' ∧ (At ao gg ∨ w.heap.size ≤ gg) := by
  obtain ⟨i0, hi0, hz0, hz1, hz2⟩ := info_parts info37
  have c1 := h.c1
  have f1 := h.fx 1
  have lt := h.ltx
  have row := h.row
  have n1 : Hid (tr.length + 1 ≤ maxLen) := (show tr.length + 1 ≤ maxLen by unfold maxLen; omega)
  have n2 : Hid ((tr.length + 1) * 40 ≤ 140737488355328) := (show (tr.length + 1) * 40 ≤ 140737488355328 by omega)
  have ne : some x ≠ (Value.slice ao tr.length cap).ownBlock := fun q => (h.at (own_at q.symm)).1 rfl
  have new2 : ∀ o o', ((w.alloc o).alloc o').drew.heap[w.heap.size + 1]? = some o' := fun o o' => by show ((w.alloc o).alloc o').heap[w.heap.size + 1]? = some o'; have := heap_alloc_new (w.alloc o) o'; rw [show (w.alloc o).heap.size = w.heap.size + 1 by simp] at this; exact this
  have new1 := World.new_ne w ⟨x, 1, none⟩ c1
  have H := hide' h
  have fal : ∀ o o', ((w.alloc o).alloc o').drew.frozen? ⟨x, 1, none⟩ = false := fun o o' => (World.frozen?_of_block (w := w) ((Below.heap_alloc _ _ _ (by simp; omega)).trans (Below.heap_alloc _ _ _ lt))).trans f1
  have cal : ∀ o o', ((w.alloc o).alloc o').drew.cell? ⟨x, 1, none⟩ = some (.slice ao tr.length cap) := fun o o' => (World.cell?_of_block (w := w) ((Below.heap_alloc _ _ _ (by simp; omega)).trans (Below.heap_alloc _ _ _ lt))).trans c1
  clear hl h
  obtain ⟨zk, za, zv, zo, zg⟩ := z
  simp only
  go_enter Try.func96, Try.ntmps96
  go_wp2_with fail
  go_region_law ((refine step_append_lies _ (by rfl) _ _ _ (by rfl) B 152 i0 _ 5 40 Try.underlying90 hi0 hz0 hz1 hz2 rfl (by omega) (.slice ao tr.length cap) tr.length (tr.flatMap Ac.cells) (by rfl) (((row.alloc _).alloc _).drew) ⟨w.heap.size + 1, 0, none⟩ 1 1 (Ac.cells ⟨zk, za, zv, zo, zg⟩) (by rfl) (by rfl) (World.news_of_block (cs := #[.int .i8 zk, .int .i64 za, .int .i64 zv, .int .i64 zo, .bool zg]) (t := 152) (fr := (0, 0)) (new2 _ _)) (by simp [Ac.cells, Value.oneCell']) (by omega) n1.out n2.out (by simp; omega) (w.heap.size + 2) (by simp) ?_; intro gg cap' w1 hown1 hgrow hat hlt; have a0 := (hgrow.cell_far ⟨x, 1, none⟩ (by simp; omega) ne).trans (cal _ _); have a0f := (hgrow.frozen_far ⟨x, 1, none⟩ (by simp; omega) ne).trans (fal _ _)))
  all_goals
    have hb0 : Below w.heap.size w ((w.alloc (.cells #[.int .i8 zk, .int .i64 za, .int .i64 zv, .int .i64 zo, .bool zg] 152)).alloc (.cells #[.int .i8 zk, .int .i64 za, .int .i64 zv, .int .i64 zo, .bool zg] 152)).drew := (((Below.refl _ _).alloc (Nat.le_refl _) _).alloc (by simp) _).drew
    obtain ⟨L1, S1, S2⟩ := note_core H.out hb0 hown1 hgrow (by simpa using hat)
    generalize (w1.setCell ⟨x, 1, none⟩ (.slice (some ⟨gg, 0, none⟩) (tr.length + 1) cap')) = W at *
    have K := hide' (And.intro L1 (And.intro S1 S2))
    clear L1 S1 S2 a0 a0f hown1 hgrow hat hlt c1 f1 fal cal new1 row ne new2 hb0
    go_wp2
    go_end0
    exact ⟨rfl, _, _, K.out.1, K.out.2.1, K.out.2.2⟩
end M
end Go.Proofs.Ytfeehnfpfheojaa
