import Derived.Test.YtbbopkhgmgdlfaaRfW
set_option linter.unusedVariables false
set_option linter.unusedSimpArgs false
namespace Go.Proofs.Ytbbopkhgmgdlfaa
open Go.RowKit
namespace F
open M
variable {B x n : Nat} {lo eo : Option Addr} {lc ec : Nat} {lg : List Wr} {tr : List Ac} {bad : Nat} {w w' : World}
theorem acs_snoc (tr : List Ac) (z : Ac) : acs (tr ++ [z]) = acs tr ++ z.cells := by simp [acs]
theorem lgs_snoc (lg : List Wr) (e : Wr) : lgs (lg ++ [e]) = lgs lg ++ e.cells := by simp [lgs]
theorem note_core {z : Ac} {gg cap' : Nat} {w0 w1 : World} (h : Re B x n lo lc lg eo ec tr bad w) (hb0 : Below w.heap.size w w0) (hown1 : w1.ownsRow B 75 5 (.slice (some ⟨gg, 0, none⟩) (tr.length + 1) cap') (tr.length + 1) (acs tr ++ z.cells))
    (hgrow : w0.grownBy w1 (Value.slice eo tr.length ec).ownBlock) (hat : (Value.slice eo tr.length ec).ownBlock = some gg ∨ gg = w0.heap.size) :
    Re B x n lo lc lg (some ⟨gg, 0, none⟩) cap' (tr ++ [z]) bad (w1.setCell ⟨x, 2, none⟩ (.slice (some ⟨gg, 0, none⟩) (tr.length + 1) cap')) ∧ Turn (Own x lo eo) w (w1.setCell ⟨x, 2, none⟩ (.slice (some ⟨gg, 0, none⟩) (tr.length + 1) cap')) ∧ (At eo gg ∨ w.heap.size ≤ gg) := by
  have hgb : At eo gg ∨ w.heap.size ≤ gg := by
    rcases hat with q | q
    · exact .inl (own_at q)
    · exact .inr (by rw [q]; exact hb0.size)
  have hne : gg ≠ x := by
    rcases hgb with q | q
    · exact (h.ate q).1
    · have := h.ltx; omega
  have t0 : Turn (At eo) w w1 := ((turn_below hb0)).grown hgrow (fun k hk _ => own_at hk)
  have hx1 := (t0.block x h.ltx (fun q => (h.ate q).1 rfl)).trans h.hx
  have t1 : Turn (fun k => k = x) w1 (w1.setCell ⟨x, 2, none⟩ (.slice (some ⟨gg, 0, none⟩) (tr.length + 1) cap')) := (Turn.refl (fun k => k = x) w1).setCell (p := ⟨x, 2, none⟩) (fun _ => rfl) _
  refine ⟨⟨?_, ?_, ?_, h.lx⟩, ?_, hgb⟩
  · rw [List.length_append]; exact set_block hx1
  · exact t1.row (t0.row h.log (fun j hj q => (h.ate q).2.1 (own_at hj))) (fun j hj e => (h.atl (own_at hj)).1 e)
  · rw [List.length_append, acs_snoc]
    exact t1.row hown1 (fun j hj e => by
      have : gg = j := by simpa [Value.ownBlock] using hj
      omega)
  · exact (t0.mono (fun k _ q => Or.inr (Or.inr q))).trans (t1.mono (fun k _ e => .inl e))
theorem log_core {e : Wr} {gg cap' : Nat} {w0 w1 : World} (h : Re B x n lo lc lg eo ec tr bad w) (hb0 : Below w.heap.size w w0) (hown1 : w1.ownsRow B 99 3 (.slice (some ⟨gg, 0, none⟩) (lg.length + 1) cap') (lg.length + 1) (lgs lg ++ e.cells))
    (hgrow : w0.grownBy w1 (Value.slice lo lg.length lc).ownBlock) (hat : (Value.slice lo lg.length lc).ownBlock = some gg ∨ gg = w0.heap.size) :
    Re B x n (some ⟨gg, 0, none⟩) cap' (lg ++ [e]) eo ec tr bad (w1.setCell ⟨x, 1, none⟩ (.slice (some ⟨gg, 0, none⟩) (lg.length + 1) cap')) ∧ Turn (Own x lo eo) w (w1.setCell ⟨x, 1, none⟩ (.slice (some ⟨gg, 0, none⟩) (lg.length + 1) cap')) ∧ (At lo gg ∨ w.heap.size ≤ gg) := by
  have hgb : At lo gg ∨ w.heap.size ≤ gg := by
    rcases hat with q | q
    · exact .inl (own_at q)
    · exact .inr (by rw [q]; exact hb0.size)
  have hne : gg ≠ x := by
    rcases hgb with q | q
    · exact (h.atl q).1
    · have := h.ltx; omega
  have t0 : Turn (At lo) w w1 := ((turn_below hb0)).grown hgrow (fun k hk _ => own_at hk)
  have hx1 := (t0.block x h.ltx (fun q => (h.atl q).1 rfl)).trans h.hx
  have t1 : Turn (fun k => k = x) w1 (w1.setCell ⟨x, 1, none⟩ (.slice (some ⟨gg, 0, none⟩) (lg.length + 1) cap')) := (Turn.refl (fun k => k = x) w1).setCell (p := ⟨x, 1, none⟩) (fun _ => rfl) _
  refine ⟨⟨?_, ?_, ?_, h.lx⟩, ?_, hgb⟩
  · rw [List.length_append]; exact set_block hx1
  · rw [List.length_append, lgs_snoc]
    exact t1.row hown1 (fun j hj e => by
      have : gg = j := by simpa [Value.ownBlock] using hj
      omega)
  · exact t1.row (t0.row h.row (fun j hj q => (h.atl q).2.1 (own_at hj))) (fun j hj e => (h.ate (own_at hj)).1 e)
  · exact (t0.mono (fun k _ q => Or.inr (Or.inl q))).trans (t1.mono (fun k _ e => .inl e))
set_option maxRecDepth 100000 in
set_option maxHeartbeats 4000000 in
theorem note_any (z : Ac) (h : Re B x n lo lc lg eo ec tr bad w) (hl : tr.length < 2000000000000) :
    Calls Try.prog 69 #[.pointer (some ⟨x, 0, none⟩), .agg #[.int .i8 z.kind, .int .i64 z.addr, .int .i64 z.value, .int .i64 z.old, .bool z.good]] w fun e w' => e = .returned (.tuple #[]) ∧ ∃ gg cap', Re B x n lo lc lg (some ⟨gg, 0, none⟩) cap' (tr ++ [z]) bad w' ∧ Turn (Own x lo eo) w w' ∧ (At eo gg ∨ w.heap.size ≤ gg) := by
  obtain ⟨i0, hi0, hz0, hz1, hz2⟩ := info_parts info37
  have c1 := h.c2
  have f1 := h.fx 2
  have lt := h.ltx
  have lx := h.lx
  have row := h.row
  have n1 : Hid (tr.length + 1 ≤ maxLen) := (show tr.length + 1 ≤ maxLen by unfold maxLen; omega)
  have n2 : Hid ((tr.length + 1) * 40 ≤ 140737488355328) := (show (tr.length + 1) * 40 ≤ 140737488355328 by omega)
  have ne : some x ≠ (Value.slice eo tr.length ec).ownBlock := fun q => (h.ate (own_at q.symm)).1 rfl
  have new2 : ∀ o o', ((w.alloc o).alloc o').drew.heap[w.heap.size + 1]? = some o' := fun o o' => by show ((w.alloc o).alloc o').heap[w.heap.size + 1]? = some o'; have := heap_alloc_new (w.alloc o) o'; rw [show (w.alloc o).heap.size = w.heap.size + 1 by simp] at this; exact this
  have new1 := World.new_ne w ⟨x, 2, none⟩ c1
  have H := hide' h
  have fal : ∀ o o', ((w.alloc o).alloc o').drew.frozen? ⟨x, 2, none⟩ = false := fun o o' => (World.frozen?_of_block (w := w) ((Below.heap_alloc _ _ _ (by simp; omega)).trans (Below.heap_alloc _ _ _ lt))).trans f1
  have cal : ∀ o o', ((w.alloc o).alloc o').drew.cell? ⟨x, 2, none⟩ = some (.slice eo tr.length ec) := fun o o' => (World.cell?_of_block (w := w) ((Below.heap_alloc _ _ _ (by simp; omega)).trans (Below.heap_alloc _ _ _ lt))).trans c1
  clear hl h
  obtain ⟨zk, za, zv, zo, zg⟩ := z
  simp only
  go_enter Try.func69, Try.ntmps69
  go_wp2_with fail
  go_region_law ((refine step_append_lies _ (by rfl) _ _ _ (by rfl) B 75 i0 _ 5 40 Try.underlying54 hi0 hz0 hz1 hz2 rfl (by omega) (.slice eo tr.length ec) tr.length (acs tr) (by rfl) (((row.alloc _).alloc _).drew) ⟨w.heap.size + 1, 0, none⟩ 1 1 (Ac.cells ⟨zk, za, zv, zo, zg⟩) (by rfl) (by rfl) (World.news_of_block (cs := #[.int .i8 zk, .int .i64 za, .int .i64 zv, .int .i64 zo, .bool zg]) (t := 75) (fr := (0, 0)) (new2 _ _)) (by simp [Ac.cells, Value.oneCell']) (by omega) n1.out n2.out (by simp; omega) (w.heap.size + 2) (by simp) ?_; intro gg cap' w1 hown1 hgrow hat hlt; have a0 := (hgrow.cell_far ⟨x, 2, none⟩ (by simp; omega) ne).trans (cal _ _); have a0f := (hgrow.frozen_far ⟨x, 2, none⟩ (by simp; omega) ne).trans (fal _ _)))
  all_goals
    have hb0 : Below w.heap.size w ((w.alloc (.cells #[.int .i8 zk, .int .i64 za, .int .i64 zv, .int .i64 zo, .bool zg] 75)).alloc (.cells #[.int .i8 zk, .int .i64 za, .int .i64 zv, .int .i64 zo, .bool zg] 75)).drew := (((Below.refl _ _).alloc (Nat.le_refl _) _).alloc (by simp) _).drew
    obtain ⟨L1, S1, S2⟩ := note_core H.out hb0 hown1 hgrow (by simpa using hat)
    generalize (w1.setCell ⟨x, 2, none⟩ (.slice (some ⟨gg, 0, none⟩) (tr.length + 1) cap')) = W at *
    have K := hide' (And.intro L1 (And.intro S1 S2))
    clear L1 S1 S2 a0 a0f hown1 hgrow hat hlt c1 f1 fal cal new1 row ne new2 hb0
    go_wp2
    go_end0
    exact ⟨rfl, _, _, K.out.1, K.out.2.1, K.out.2.2⟩
theorem info78 : (Try.prog.info? 99).map (fun i => (i.zero, i.size, i.bytes)) = some (some (.agg #[.int .i64 0, .int .i64 0, .int .i64 0]), 3, 24) := by kernel_rfl
/-- the append to the log, behind which the log is stored -/
theorem wpList_log (w : World) {ops : Array Oper} {rest : List Oper} {o : Oper} {a : Act} {Q : Exit → Act → World → Prop} (hgd : o.guard = none) (s y : Operand)
    (ho : o.op = .call { callee := .builtin .append, args := #[s, y], argTypes := #[83, 83] }) (h : Re B x n lo lc lg eo ec tr bad w) (hl : lg.length < 2000000000000) (e : Wr) (c : Nat) (hs : a.eval s = .slice lo lg.length lc) (hx : a.eval y = .slice (some ⟨w.heap.size, 0, none⟩) 1 c)
    (hk : ∀ gg cap' w1, w1.cell? ⟨x, 1, none⟩ = some (.slice lo lg.length lc) → w1.frozen? ⟨x, 1, none⟩ = false → Re B x n (some ⟨gg, 0, none⟩) cap' (lg ++ [e]) eo ec tr bad (w1.setCell ⟨x, 1, none⟩ (.slice (some ⟨gg, 0, none⟩) (lg.length + 1) cap')) → Turn (Own x lo eo) w (w1.setCell ⟨x, 1, none⟩ (.slice (some ⟨gg, 0, none⟩) (lg.length + 1) cap')) → (At lo gg ∨ w.heap.size ≤ gg) → wpList Try.prog ops Q rest (a.put o.dst (.slice (some ⟨gg, 0, none⟩) (lg.length + 1) cap')) w1) :
    wpList Try.prog ops Q (o :: rest) a (w.alloc (.cells #[.int .i64 e.a, .int .i64 e.n, .int .i64 e.v] 99)) := by
  obtain ⟨i0, hi0, hz0, hz1, hz2⟩ := info_parts info78
  have lx := h.lx
  have lt := h.ltx
  refine wpList_append_lies _ hgd s y 83 ho B 99 i0 _ 3 24 Try.underlying83 hi0 hz0 hz1 hz2 rfl (by omega) _ lg.length (lgs lg) hs (World.ownsRow.alloc h.log _) ⟨w.heap.size, 0, none⟩ 1 c e.cells hx rfl (World.news_of_block (cs := #[.int .i64 e.a, .int .i64 e.n, .int .i64 e.v]) (t := 99) (fr := (0, 0)) (heap_alloc_new _ _)) (by simp [Wr.cells, Value.oneCell']) (by omega) (by unfold maxLen; omega) (by omega) (by simp; omega) (w.heap.size + 1) (by simp) ?_
  intro gg cap' w1 hown1 hgrow hat hlt
  have hb0 : Below w.heap.size w (w.alloc (.cells #[.int .i64 e.a, .int .i64 e.n, .int .i64 e.v] 99)) := (Below.refl _ _).alloc (Nat.le_refl _) _
  obtain ⟨L1, S1, S2⟩ := log_core h hb0 hown1 hgrow (by simpa using hat)
  have ne : some x ≠ (Value.slice lo lg.length lc).ownBlock := fun q => (h.atl (own_at q.symm)).1 rfl
  have hc : (w.alloc (.cells #[.int .i64 e.a, .int .i64 e.n, .int .i64 e.v] 99)).cell? ⟨x, 1, none⟩ = some (.slice lo lg.length lc) := (World.cell?_of_block (w := w) (Below.heap_alloc _ _ _ lt)).trans h.c1
  have hf : (w.alloc (.cells #[.int .i64 e.a, .int .i64 e.n, .int .i64 e.v] 99)).frozen? ⟨x, 1, none⟩ = false := (World.frozen?_of_block (w := w) (Below.heap_alloc _ _ _ lt)).trans (h.fx 1)
  exact hk gg cap' w1 ((hgrow.cell_far ⟨x, 1, none⟩ (by simp; omega) ne).trans hc) ((hgrow.frozen_far ⟨x, 1, none⟩ (by simp; omega) ne).trans hf) L1 S1 S2
set_option maxRecDepth 100000 in
set_option maxHeartbeats 1000000 in
theorem write_any (a v : Int) (h : Re B x n lo lc lg eo ec tr bad w) (hl : lg.length < 2000000000000) :
    Calls Try.prog 68 #[.pointer (some ⟨x, 0, none⟩), .int .i64 a, .int .i64 v] w fun e w' => e = .returned (.tuple #[]) ∧ ∃ gg cap', Re B x n (some ⟨gg, 0, none⟩) cap' (lg ++ [⟨a, 1, v⟩]) eo ec tr bad w' ∧ Turn (Own x lo eo) w w' ∧ (At lo gg ∨ w.heap.size ≤ gg) := by
  have c1 := h.c1
  have H := hide' h
  have HL := hide' hl
  clear h hl
  go_enter Try.func68, Try.ntmps68
  go_wp2_with (at_builtin; refine wpList_log w rfl _ _ rfl H.out HL.out ⟨a, 1, v⟩ _ rfl rfl ?_; intro gg cap' w1 d1 d2 L1 S1 S2)
  go_end0
  exact ⟨rfl, gg, cap', L1, S1, S2⟩
end F
end Go.Proofs.Ytbbopkhgmgdlfaa
