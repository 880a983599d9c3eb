import Derived.Test.YtgbhcfephhbalaaFeq
set_option linter.unusedVariables false
set_option linter.unusedSimpArgs false
namespace Go.Proofs.Ytgbhcfephhbalaa
open Go.RowKit Go.Maps
namespace U
def farr (F F' : Pf) (ls : List (Ru × Nat × Nat)) : Array Value := #[.slice F'.a.1 (F.a.2.2.length + 1) F'.a.2.1, .slice F'.s.1 (F.s.2.2.length + 1) F'.s.2.1, .slice F'.r.1 (F.r.2.2.length + 1) F'.r.2.1, .slice F'.o.1 (F.o.2.2.length + 1) F'.o.2.1, .slice F'.g.1 (F.g.2.2.length + 1) F'.g.2.1, .slice F'.m.1 (F.m.2.2.length + 1) F'.m.2.1, .slice F'.i.1 (F.i.2.2.length + 1) F'.i.2.1, .slice F'.p.1 (F.p.2.2.length + 1) F'.p.2.1, .slice F'.w.1 (F.w.2.2.length + 1) F'.w.2.1, .slice F'.u.1 (ls.length + 1) F'.u.2.1, .slice F'.x.1 (F.x.2.2.length + 1) F'.x.2.1]
theorem Rm.arr {F F' : Pf} {lo : Option Addr} {lc : Nat} {ls : List (Ru × Nat × Nat)} {w : World} (h : Rm F F' lo lc ls w) : F'.arr = farr F F' ls := by
  unfold Pf.arr farr
  rw [h.ea, h.es, h.er, h.eo, h.eg, h.em, h.ei, h.ep, h.ew, h.eu, h.ex]
  simp
def rarr (F F' : Pf) (ls : List (Ru × Nat × Nat)) (lo : Option Addr) (lc : Nat) : Array Value := #[.slice F'.a.1 F.a.2.2.length F'.a.2.1, .slice F'.s.1 F.s.2.2.length F'.s.2.1, .slice F'.r.1 F.r.2.2.length F'.r.2.1, .slice F'.o.1 F.o.2.2.length F'.o.2.1, .slice F'.g.1 F.g.2.2.length F'.g.2.1, .slice F'.m.1 F.m.2.2.length F'.m.2.1, .slice F'.i.1 F.i.2.2.length F'.i.2.1, .slice F'.p.1 F.p.2.2.length F'.p.2.1, .slice F'.w.1 F.w.2.2.length F'.w.2.1, .slice F'.u.1 F.u.2.2.length F'.u.2.1, .slice F'.x.1 F.x.2.2.length F'.x.2.1, .slice F'.a.1 (F.a.2.2.length + 1) F'.a.2.1, .slice F'.s.1 (F.s.2.2.length + 1) F'.s.2.1, .slice F'.r.1 (F.r.2.2.length + 1) F'.r.2.1, .slice F'.o.1 (F.o.2.2.length + 1) F'.o.2.1, .slice F'.g.1 (F.g.2.2.length + 1) F'.g.2.1, .slice F'.m.1 (F.m.2.2.length + 1) F'.m.2.1, .slice F'.i.1 (F.i.2.2.length + 1) F'.i.2.1, .slice F'.p.1 (F.p.2.2.length + 1) F'.p.2.1, .slice F'.w.1 (F.w.2.2.length + 1) F'.w.2.1, .slice F'.u.1 (ls.length + 1) F'.u.2.1, .slice F'.x.1 (F.x.2.2.length + 1) F'.x.2.1, .slice lo ls.length lc]
theorem Rm.all {F F' : Pf} {lo : Option Addr} {lc : Nat} {ls : List (Ru × Nat × Nat)} {w : World} (h : Rm F F' lo lc ls w) : (F.cut F').arr ++ F'.arr ++ #[.slice lo ls.length lc] = rarr F F' ls lo lc := by
  rw [h.arr]; rfl
/-- what untouched reads -/
structure Us (F F' : Pf) (lo : Option Addr) (lc : Nat) (ls : List (Ru × Nat × Nat)) (q2 q3 q5 : Nat) (w V : World) : Prop where
  b : Below w.heap.size w V
  h2 : V.heap[q2]? = some (.cells (rarr F F' ls lo lc) 39 (0, 0))
  h3 : V.heap[q3]? = some (.cells F.arr 34 (0, 0))
  h5 : V.heap[q5]? = some (.cells (farr F F' ls) 34 (0, 0))
theorem Us.below {F F' : Pf} {lo : Option Addr} {lc : Nat} {ls : List (Ru × Nat × Nat)} {q2 q3 q5 : Nat} {w V V' : World} (h : Us F F' lo lc ls q2 q3 q5 w V) (t : Below V.heap.size V V') : Us F F' lo lc ls q2 q3 q5 w V' :=
  ⟨h.b.trans (t.mono h.b.size), (t.block _ (lt_of_heap h.h2)).trans h.h2, (t.block _ (lt_of_heap h.h3)).trans h.h3, (t.block _ (lt_of_heap h.h5)).trans h.h5⟩
theorem Us.drewN {F F' : Pf} {lo : Option Addr} {lc : Nat} {ls : List (Ru × Nat × Nat)} {q2 q3 q5 : Nat} {w V : World} (h : Us F F' lo lc ls q2 q3 q5 w V) (n : Nat) : Us F F' lo lc ls q2 q3 q5 w (V.drewN n) := h.below ⟨rfl, rfl, rfl, Nat.le_refl _, fun _ _ => rfl⟩
theorem Us.c2 {F F' : Pf} {lo : Option Addr} {lc : Nat} {ls : List (Ru × Nat × Nat)} {q2 q3 q5 : Nat} {w V : World} (h : Us F F' lo lc ls q2 q3 q5 w V) (i : Nat) : V.cell? ⟨q2, i, none⟩ = (rarr F F' ls lo lc)[i]? := by rw [Lib.cell_of_heap h.h2]
theorem Us.c3 {F F' : Pf} {lo : Option Addr} {lc : Nat} {ls : List (Ru × Nat × Nat)} {q2 q3 q5 : Nat} {w V : World} (h : Us F F' lo lc ls q2 q3 q5 w V) (i : Nat) : V.cell? ⟨q3, i, none⟩ = F.arr[i]? := by rw [Lib.cell_of_heap h.h3]
theorem Us.c5 {F F' : Pf} {lo : Option Addr} {lc : Nat} {ls : List (Ru × Nat × Nat)} {q2 q3 q5 : Nat} {w V : World} (h : Us F F' lo lc ls q2 q3 q5 w V) (i : Nat) : V.cell? ⟨q5, i, none⟩ = (farr F F' ls)[i]? := by rw [Lib.cell_of_heap h.h5]
set_option maxRecDepth 100000 in
set_option maxHeartbeats 4000000 in
theorem untouched_any (F F' : Pf) (lo : Option Addr) (lc : Nat) (ls : List (Ru × Nat × Nat)) (w : World) (h : F.In w) (hs : F.Small) (hr : Rm F F' lo lc ls w) : Calls Try.prog 21 #[.agg (rarr F F' ls lo lc), .agg F.arr] w fun e w' => e = .returned (.bool true) ∧ Below w.heap.size w w' := by
  have H := hide' h
  have Hs := hide' hs
  have HR := hide' hr
  clear h hs hr
  have hPv : Hid (Value.agg F.arr = .agg #[.slice F.a.1 F.a.2.2.length F.a.2.1, .slice F.s.1 F.s.2.2.length F.s.2.1, .slice F.r.1 F.r.2.2.length F.r.2.1, .slice F.o.1 F.o.2.2.length F.o.2.1, .slice F.g.1 F.g.2.2.length F.g.2.1, .slice F.m.1 F.m.2.2.length F.m.2.1, .slice F.i.1 F.i.2.2.length F.i.2.1, .slice F.p.1 F.p.2.2.length F.p.2.1, .slice F.w.1 F.w.2.2.length F.w.2.1, .slice F.u.1 F.u.2.2.length F.u.2.1, .slice F.x.1 F.x.2.2.length F.x.2.1]) := rfl
  have hRv : Hid (Value.agg (rarr F F' ls lo lc) = .agg #[.slice F'.a.1 F.a.2.2.length F'.a.2.1, .slice F'.s.1 F.s.2.2.length F'.s.2.1, .slice F'.r.1 F.r.2.2.length F'.r.2.1, .slice F'.o.1 F.o.2.2.length F'.o.2.1, .slice F'.g.1 F.g.2.2.length F'.g.2.1, .slice F'.m.1 F.m.2.2.length F'.m.2.1, .slice F'.i.1 F.i.2.2.length F'.i.2.1, .slice F'.p.1 F.p.2.2.length F'.p.2.1, .slice F'.w.1 F.w.2.2.length F'.w.2.1, .slice F'.u.1 F.u.2.2.length F'.u.2.1, .slice F'.x.1 F.x.2.2.length F'.x.2.1, .slice F'.a.1 (F.a.2.2.length + 1) F'.a.2.1, .slice F'.s.1 (F.s.2.2.length + 1) F'.s.2.1, .slice F'.r.1 (F.r.2.2.length + 1) F'.r.2.1, .slice F'.o.1 (F.o.2.2.length + 1) F'.o.2.1, .slice F'.g.1 (F.g.2.2.length + 1) F'.g.2.1, .slice F'.m.1 (F.m.2.2.length + 1) F'.m.2.1, .slice F'.i.1 (F.i.2.2.length + 1) F'.i.2.1, .slice F'.p.1 (F.p.2.2.length + 1) F'.p.2.1, .slice F'.w.1 (F.w.2.2.length + 1) F'.w.2.1, .slice F'.u.1 (ls.length + 1) F'.u.2.1, .slice F'.x.1 (F.x.2.2.length + 1) F'.x.2.1, .slice lo ls.length lc]) := rfl
  rw [hPv.out, hRv.out]
  go_enter Try.func21, Try.ntmps21
  go_wp2_with fail
  obtain ⟨V0, hV⟩ : ∃ V0, V0 = (((w.alloc (.cells #[.slice F'.a.1 F.a.2.2.length F'.a.2.1, .slice F'.s.1 F.s.2.2.length F'.s.2.1, .slice F'.r.1 F.r.2.2.length F'.r.2.1, .slice F'.o.1 F.o.2.2.length F'.o.2.1, .slice F'.g.1 F.g.2.2.length F'.g.2.1, .slice F'.m.1 F.m.2.2.length F'.m.2.1, .slice F'.i.1 F.i.2.2.length F'.i.2.1, .slice F'.p.1 F.p.2.2.length F'.p.2.1, .slice F'.w.1 F.w.2.2.length F'.w.2.1, .slice F'.u.1 F.u.2.2.length F'.u.2.1, .slice F'.x.1 F.x.2.2.length F'.x.2.1, .slice F'.a.1 (F.a.2.2.length + 1) F'.a.2.1, .slice F'.s.1 (F.s.2.2.length + 1) F'.s.2.1, .slice F'.r.1 (F.r.2.2.length + 1) F'.r.2.1, .slice F'.o.1 (F.o.2.2.length + 1) F'.o.2.1, .slice F'.g.1 (F.g.2.2.length + 1) F'.g.2.1, .slice F'.m.1 (F.m.2.2.length + 1) F'.m.2.1, .slice F'.i.1 (F.i.2.2.length + 1) F'.i.2.1, .slice F'.p.1 (F.p.2.2.length + 1) F'.p.2.1, .slice F'.w.1 (F.w.2.2.length + 1) F'.w.2.1, .slice F'.u.1 (ls.length + 1) F'.u.2.1, .slice F'.x.1 (F.x.2.2.length + 1) F'.x.2.1, .slice lo ls.length lc] 39)).alloc (.cells #[.slice F.a.1 F.a.2.2.length F.a.2.1, .slice F.s.1 F.s.2.2.length F.s.2.1, .slice F.r.1 F.r.2.2.length F.r.2.1, .slice F.o.1 F.o.2.2.length F.o.2.1, .slice F.g.1 F.g.2.2.length F.g.2.1, .slice F.m.1 F.m.2.2.length F.m.2.1, .slice F.i.1 F.i.2.2.length F.i.2.1, .slice F.p.1 F.p.2.2.length F.p.2.1, .slice F.w.1 F.w.2.2.length F.w.2.1, .slice F.u.1 F.u.2.2.length F.u.2.1, .slice F.x.1 F.x.2.2.length F.x.2.1] 34)).alloc (.cells #[.slice F'.a.1 (F.a.2.2.length + 1) F'.a.2.1, .slice F'.s.1 (F.s.2.2.length + 1) F'.s.2.1, .slice F'.r.1 (F.r.2.2.length + 1) F'.r.2.1, .slice F'.o.1 (F.o.2.2.length + 1) F'.o.2.1, .slice F'.g.1 (F.g.2.2.length + 1) F'.g.2.1, .slice F'.m.1 (F.m.2.2.length + 1) F'.m.2.1, .slice F'.i.1 (F.i.2.2.length + 1) F'.i.2.1, .slice F'.p.1 (F.p.2.2.length + 1) F'.p.2.1, .slice F'.w.1 (F.w.2.2.length + 1) F'.w.2.1, .slice F'.u.1 (ls.length + 1) F'.u.2.1, .slice F'.x.1 (F.x.2.2.length + 1) F'.x.2.1] 34)) := ⟨_, rfl⟩
  rw [← hV]
  have U0 : Hid (Us F F' lo lc ls w.heap.size (w.heap.size + 1) (w.heap.size + 1 + 1) w V0) := by
    have a1 := heap_alloc_new w (.cells #[.slice F'.a.1 F.a.2.2.length F'.a.2.1, .slice F'.s.1 F.s.2.2.length F'.s.2.1, .slice F'.r.1 F.r.2.2.length F'.r.2.1, .slice F'.o.1 F.o.2.2.length F'.o.2.1, .slice F'.g.1 F.g.2.2.length F'.g.2.1, .slice F'.m.1 F.m.2.2.length F'.m.2.1, .slice F'.i.1 F.i.2.2.length F'.i.2.1, .slice F'.p.1 F.p.2.2.length F'.p.2.1, .slice F'.w.1 F.w.2.2.length F'.w.2.1, .slice F'.u.1 F.u.2.2.length F'.u.2.1, .slice F'.x.1 F.x.2.2.length F'.x.2.1, .slice F'.a.1 (F.a.2.2.length + 1) F'.a.2.1, .slice F'.s.1 (F.s.2.2.length + 1) F'.s.2.1, .slice F'.r.1 (F.r.2.2.length + 1) F'.r.2.1, .slice F'.o.1 (F.o.2.2.length + 1) F'.o.2.1, .slice F'.g.1 (F.g.2.2.length + 1) F'.g.2.1, .slice F'.m.1 (F.m.2.2.length + 1) F'.m.2.1, .slice F'.i.1 (F.i.2.2.length + 1) F'.i.2.1, .slice F'.p.1 (F.p.2.2.length + 1) F'.p.2.1, .slice F'.w.1 (F.w.2.2.length + 1) F'.w.2.1, .slice F'.u.1 (ls.length + 1) F'.u.2.1, .slice F'.x.1 (F.x.2.2.length + 1) F'.x.2.1, .slice lo ls.length lc] 39)
    have a2 := heap_alloc_new (w.alloc (.cells #[.slice F'.a.1 F.a.2.2.length F'.a.2.1, .slice F'.s.1 F.s.2.2.length F'.s.2.1, .slice F'.r.1 F.r.2.2.length F'.r.2.1, .slice F'.o.1 F.o.2.2.length F'.o.2.1, .slice F'.g.1 F.g.2.2.length F'.g.2.1, .slice F'.m.1 F.m.2.2.length F'.m.2.1, .slice F'.i.1 F.i.2.2.length F'.i.2.1, .slice F'.p.1 F.p.2.2.length F'.p.2.1, .slice F'.w.1 F.w.2.2.length F'.w.2.1, .slice F'.u.1 F.u.2.2.length F'.u.2.1, .slice F'.x.1 F.x.2.2.length F'.x.2.1, .slice F'.a.1 (F.a.2.2.length + 1) F'.a.2.1, .slice F'.s.1 (F.s.2.2.length + 1) F'.s.2.1, .slice F'.r.1 (F.r.2.2.length + 1) F'.r.2.1, .slice F'.o.1 (F.o.2.2.length + 1) F'.o.2.1, .slice F'.g.1 (F.g.2.2.length + 1) F'.g.2.1, .slice F'.m.1 (F.m.2.2.length + 1) F'.m.2.1, .slice F'.i.1 (F.i.2.2.length + 1) F'.i.2.1, .slice F'.p.1 (F.p.2.2.length + 1) F'.p.2.1, .slice F'.w.1 (F.w.2.2.length + 1) F'.w.2.1, .slice F'.u.1 (ls.length + 1) F'.u.2.1, .slice F'.x.1 (F.x.2.2.length + 1) F'.x.2.1, .slice lo ls.length lc] 39)) (.cells #[.slice F.a.1 F.a.2.2.length F.a.2.1, .slice F.s.1 F.s.2.2.length F.s.2.1, .slice F.r.1 F.r.2.2.length F.r.2.1, .slice F.o.1 F.o.2.2.length F.o.2.1, .slice F.g.1 F.g.2.2.length F.g.2.1, .slice F.m.1 F.m.2.2.length F.m.2.1, .slice F.i.1 F.i.2.2.length F.i.2.1, .slice F.p.1 F.p.2.2.length F.p.2.1, .slice F.w.1 F.w.2.2.length F.w.2.1, .slice F.u.1 F.u.2.2.length F.u.2.1, .slice F.x.1 F.x.2.2.length F.x.2.1] 34)
    have a3 := heap_alloc_new ((w.alloc (.cells #[.slice F'.a.1 F.a.2.2.length F'.a.2.1, .slice F'.s.1 F.s.2.2.length F'.s.2.1, .slice F'.r.1 F.r.2.2.length F'.r.2.1, .slice F'.o.1 F.o.2.2.length F'.o.2.1, .slice F'.g.1 F.g.2.2.length F'.g.2.1, .slice F'.m.1 F.m.2.2.length F'.m.2.1, .slice F'.i.1 F.i.2.2.length F'.i.2.1, .slice F'.p.1 F.p.2.2.length F'.p.2.1, .slice F'.w.1 F.w.2.2.length F'.w.2.1, .slice F'.u.1 F.u.2.2.length F'.u.2.1, .slice F'.x.1 F.x.2.2.length F'.x.2.1, .slice F'.a.1 (F.a.2.2.length + 1) F'.a.2.1, .slice F'.s.1 (F.s.2.2.length + 1) F'.s.2.1, .slice F'.r.1 (F.r.2.2.length + 1) F'.r.2.1, .slice F'.o.1 (F.o.2.2.length + 1) F'.o.2.1, .slice F'.g.1 (F.g.2.2.length + 1) F'.g.2.1, .slice F'.m.1 (F.m.2.2.length + 1) F'.m.2.1, .slice F'.i.1 (F.i.2.2.length + 1) F'.i.2.1, .slice F'.p.1 (F.p.2.2.length + 1) F'.p.2.1, .slice F'.w.1 (F.w.2.2.length + 1) F'.w.2.1, .slice F'.u.1 (ls.length + 1) F'.u.2.1, .slice F'.x.1 (F.x.2.2.length + 1) F'.x.2.1, .slice lo ls.length lc] 39)).alloc (.cells #[.slice F.a.1 F.a.2.2.length F.a.2.1, .slice F.s.1 F.s.2.2.length F.s.2.1, .slice F.r.1 F.r.2.2.length F.r.2.1, .slice F.o.1 F.o.2.2.length F.o.2.1, .slice F.g.1 F.g.2.2.length F.g.2.1, .slice F.m.1 F.m.2.2.length F.m.2.1, .slice F.i.1 F.i.2.2.length F.i.2.1, .slice F.p.1 F.p.2.2.length F.p.2.1, .slice F.w.1 F.w.2.2.length F.w.2.1, .slice F.u.1 F.u.2.2.length F.u.2.1, .slice F.x.1 F.x.2.2.length F.x.2.1] 34)) (.cells #[.slice F'.a.1 (F.a.2.2.length + 1) F'.a.2.1, .slice F'.s.1 (F.s.2.2.length + 1) F'.s.2.1, .slice F'.r.1 (F.r.2.2.length + 1) F'.r.2.1, .slice F'.o.1 (F.o.2.2.length + 1) F'.o.2.1, .slice F'.g.1 (F.g.2.2.length + 1) F'.g.2.1, .slice F'.m.1 (F.m.2.2.length + 1) F'.m.2.1, .slice F'.i.1 (F.i.2.2.length + 1) F'.i.2.1, .slice F'.p.1 (F.p.2.2.length + 1) F'.p.2.1, .slice F'.w.1 (F.w.2.2.length + 1) F'.w.2.1, .slice F'.u.1 (ls.length + 1) F'.u.2.1, .slice F'.x.1 (F.x.2.2.length + 1) F'.x.2.1] 34)
    have z1 : (w.alloc (.cells #[.slice F'.a.1 F.a.2.2.length F'.a.2.1, .slice F'.s.1 F.s.2.2.length F'.s.2.1, .slice F'.r.1 F.r.2.2.length F'.r.2.1, .slice F'.o.1 F.o.2.2.length F'.o.2.1, .slice F'.g.1 F.g.2.2.length F'.g.2.1, .slice F'.m.1 F.m.2.2.length F'.m.2.1, .slice F'.i.1 F.i.2.2.length F'.i.2.1, .slice F'.p.1 F.p.2.2.length F'.p.2.1, .slice F'.w.1 F.w.2.2.length F'.w.2.1, .slice F'.u.1 F.u.2.2.length F'.u.2.1, .slice F'.x.1 F.x.2.2.length F'.x.2.1, .slice F'.a.1 (F.a.2.2.length + 1) F'.a.2.1, .slice F'.s.1 (F.s.2.2.length + 1) F'.s.2.1, .slice F'.r.1 (F.r.2.2.length + 1) F'.r.2.1, .slice F'.o.1 (F.o.2.2.length + 1) F'.o.2.1, .slice F'.g.1 (F.g.2.2.length + 1) F'.g.2.1, .slice F'.m.1 (F.m.2.2.length + 1) F'.m.2.1, .slice F'.i.1 (F.i.2.2.length + 1) F'.i.2.1, .slice F'.p.1 (F.p.2.2.length + 1) F'.p.2.1, .slice F'.w.1 (F.w.2.2.length + 1) F'.w.2.1, .slice F'.u.1 (ls.length + 1) F'.u.2.1, .slice F'.x.1 (F.x.2.2.length + 1) F'.x.2.1, .slice lo ls.length lc] 39)).heap.size = w.heap.size + 1 := by simp
    have z2 : ((w.alloc (.cells #[.slice F'.a.1 F.a.2.2.length F'.a.2.1, .slice F'.s.1 F.s.2.2.length F'.s.2.1, .slice F'.r.1 F.r.2.2.length F'.r.2.1, .slice F'.o.1 F.o.2.2.length F'.o.2.1, .slice F'.g.1 F.g.2.2.length F'.g.2.1, .slice F'.m.1 F.m.2.2.length F'.m.2.1, .slice F'.i.1 F.i.2.2.length F'.i.2.1, .slice F'.p.1 F.p.2.2.length F'.p.2.1, .slice F'.w.1 F.w.2.2.length F'.w.2.1, .slice F'.u.1 F.u.2.2.length F'.u.2.1, .slice F'.x.1 F.x.2.2.length F'.x.2.1, .slice F'.a.1 (F.a.2.2.length + 1) F'.a.2.1, .slice F'.s.1 (F.s.2.2.length + 1) F'.s.2.1, .slice F'.r.1 (F.r.2.2.length + 1) F'.r.2.1, .slice F'.o.1 (F.o.2.2.length + 1) F'.o.2.1, .slice F'.g.1 (F.g.2.2.length + 1) F'.g.2.1, .slice F'.m.1 (F.m.2.2.length + 1) F'.m.2.1, .slice F'.i.1 (F.i.2.2.length + 1) F'.i.2.1, .slice F'.p.1 (F.p.2.2.length + 1) F'.p.2.1, .slice F'.w.1 (F.w.2.2.length + 1) F'.w.2.1, .slice F'.u.1 (ls.length + 1) F'.u.2.1, .slice F'.x.1 (F.x.2.2.length + 1) F'.x.2.1, .slice lo ls.length lc] 39)).alloc (.cells #[.slice F.a.1 F.a.2.2.length F.a.2.1, .slice F.s.1 F.s.2.2.length F.s.2.1, .slice F.r.1 F.r.2.2.length F.r.2.1, .slice F.o.1 F.o.2.2.length F.o.2.1, .slice F.g.1 F.g.2.2.length F.g.2.1, .slice F.m.1 F.m.2.2.length F.m.2.1, .slice F.i.1 F.i.2.2.length F.i.2.1, .slice F.p.1 F.p.2.2.length F.p.2.1, .slice F.w.1 F.w.2.2.length F.w.2.1, .slice F.u.1 F.u.2.2.length F.u.2.1, .slice F.x.1 F.x.2.2.length F.x.2.1] 34)).heap.size = w.heap.size + 1 + 1 := by simp
    rw [z1] at a2
    rw [z2] at a3
    rw [hV]
    exact ⟨(((Below.refl _ _).alloc (Nat.le_refl _) _).alloc (by simp) _).alloc (by simp; omega) _, (Below.heap_alloc _ _ _ (by omega)).trans ((Below.heap_alloc _ _ _ (by omega)).trans a1), (Below.heap_alloc _ _ _ (by omega)).trans a2, a3⟩
  clear hV hPv hRv
  obtain ⟨q2, hq2⟩ : ∃ q2, q2 = w.heap.size := ⟨_, rfl⟩
  generalize hq5 : w.heap.size + 1 + 1 = q5 at *
  generalize hq3 : w.heap.size + 1 = q3 at *
  rw [← hq2]
  rw [← hq2] at U0
  clear hq2 hq3 hq5
  have RV : Hid (∀ V, Us F F' lo lc ls q2 q3 q5 w V → Rm F F' lo lc ls V ∧ F.In V) := fun V u => ⟨HR.out.below u.b, H.out.below u.b⟩
  refine (S.asLong_any F'.a.1 F.a.1 F'.a.2.1 F.a.2.1 F.a.2.2 V0 (by have q := (RV.out V0 U0.out).1; have z := q.a.1; rw [q.ea] at z; exact z) (RV.out V0 U0.out).2.a.1 (by have q := (RV.out V0 U0.out).1; have z := q.a.2; rw [q.ea] at z; simpa using z) (RV.out V0 U0.out).2.a.2.1 (by have := Hs.out.a; show _ < _; omega)).mono ?_
  rintro e V1' ⟨rfl, m1, hm1⟩
  have U1 : Hid (Us F F' lo lc ls q2 q3 q5 w V1') := by rw [hm1]; exact U0.out.drewN m1
  clear hm1 U0
  have a1 : V1'.cell? ⟨q5, 2, none⟩ = some (.slice F'.r.1 (F.r.2.2.length + 1) F'.r.2.1) := U1.out.c5 2
  have b1 : V1'.cell? ⟨q3, 2, none⟩ = some (.slice F.r.1 F.r.2.2.length F.r.2.1) := U1.out.c3 2
  go_wp2_with fail
  clear a1 b1
  refine (S.asLong_any F'.r.1 F.r.1 F'.r.2.1 F.r.2.1 F.r.2.2 V1' (by have q := (RV.out V1' U1.out).1; have z := q.r.1; rw [q.er] at z; exact z) (RV.out V1' U1.out).2.r.1 (by have q := (RV.out V1' U1.out).1; have z := q.r.2; rw [q.er] at z; simpa using z) (RV.out V1' U1.out).2.r.2.1 (by have := Hs.out.r; show _ < _; omega)).mono ?_
  rintro e V2' ⟨rfl, m2, hm2⟩
  have U2 : Hid (Us F F' lo lc ls q2 q3 q5 w V2') := by rw [hm2]; exact U1.out.drewN m2
  clear hm2 U1
  have a2 : V2'.cell? ⟨q5, 3, none⟩ = some (.slice F'.o.1 (F.o.2.2.length + 1) F'.o.2.1) := U2.out.c5 3
  have b2 : V2'.cell? ⟨q3, 3, none⟩ = some (.slice F.o.1 F.o.2.2.length F.o.2.1) := U2.out.c3 3
  go_wp2_with fail
  clear a2 b2
  refine (S.asLong_any F'.o.1 F.o.1 F'.o.2.1 F.o.2.1 F.o.2.2 V2' (by have q := (RV.out V2' U2.out).1; have z := q.o.1; rw [q.eo] at z; exact z) (RV.out V2' U2.out).2.o.1 (by have q := (RV.out V2' U2.out).1; have z := q.o.2; rw [q.eo] at z; simpa using z) (RV.out V2' U2.out).2.o.2.1 (by have := Hs.out.o; show _ < _; omega)).mono ?_
  rintro e V3' ⟨rfl, m3, hm3⟩
  have U3 : Hid (Us F F' lo lc ls q2 q3 q5 w V3') := by rw [hm3]; exact U2.out.drewN m3
  clear hm3 U2
  have a3 : V3'.cell? ⟨q5, 4, none⟩ = some (.slice F'.g.1 (F.g.2.2.length + 1) F'.g.2.1) := U3.out.c5 4
  have b3 : V3'.cell? ⟨q3, 4, none⟩ = some (.slice F.g.1 F.g.2.2.length F.g.2.1) := U3.out.c3 4
  go_wp2_with fail
  clear a3 b3
  refine (S.asLong_any F'.g.1 F.g.1 F'.g.2.1 F.g.2.1 F.g.2.2 V3' (by have q := (RV.out V3' U3.out).1; have z := q.g.1; rw [q.eg] at z; exact z) (RV.out V3' U3.out).2.g.1 (by have q := (RV.out V3' U3.out).1; have z := q.g.2; rw [q.eg] at z; simpa using z) (RV.out V3' U3.out).2.g.2.1 (by have := Hs.out.g; show _ < _; omega)).mono ?_
  rintro e V4' ⟨rfl, m4, hm4⟩
  have U4 : Hid (Us F F' lo lc ls q2 q3 q5 w V4') := by rw [hm4]; exact U3.out.drewN m4
  clear hm4 U3
  have a4 : V4'.cell? ⟨q5, 5, none⟩ = some (.slice F'.m.1 (F.m.2.2.length + 1) F'.m.2.1) := U4.out.c5 5
  have b4 : V4'.cell? ⟨q3, 5, none⟩ = some (.slice F.m.1 F.m.2.2.length F.m.2.1) := U4.out.c3 5
  go_wp2_with fail
  clear a4 b4
  refine (Q.asPairs_any F'.m.1 F.m.1 F'.m.2.1 F.m.2.1 F.m.2.2 V4' (by have q := (RV.out V4' U4.out).1; have z := q.m.1; rw [q.em] at z; exact z) (RV.out V4' U4.out).2.m.1 (by have q := (RV.out V4' U4.out).1; have z := q.m.2; rw [q.em] at z; simpa using z) (RV.out V4' U4.out).2.m.2.1 (by have := Hs.out.m; show _ < _; omega)).mono ?_
  rintro e V5' ⟨rfl, m5, hm5⟩
  have U5 : Hid (Us F F' lo lc ls q2 q3 q5 w V5') := by rw [hm5]; exact U4.out.drewN m5
  clear hm5 U4
  have a5 : V5'.cell? ⟨q5, 6, none⟩ = some (.slice F'.i.1 (F.i.2.2.length + 1) F'.i.2.1) := U5.out.c5 6
  have b5 : V5'.cell? ⟨q3, 6, none⟩ = some (.slice F.i.1 F.i.2.2.length F.i.2.1) := U5.out.c3 6
  go_wp2_with fail
  clear a5 b5
  refine (Q.asPairs_any F'.i.1 F.i.1 F'.i.2.1 F.i.2.1 F.i.2.2 V5' (by have q := (RV.out V5' U5.out).1; have z := q.i.1; rw [q.ei] at z; exact z) (RV.out V5' U5.out).2.i.1 (by have q := (RV.out V5' U5.out).1; have z := q.i.2; rw [q.ei] at z; simpa using z) (RV.out V5' U5.out).2.i.2.1 (by have := Hs.out.i; show _ < _; omega)).mono ?_
  rintro e V6' ⟨rfl, m6, hm6⟩
  have U6 : Hid (Us F F' lo lc ls q2 q3 q5 w V6') := by rw [hm6]; exact U5.out.drewN m6
  clear hm6 U5
  have a6 : V6'.cell? ⟨q5, 7, none⟩ = some (.slice F'.p.1 (F.p.2.2.length + 1) F'.p.2.1) := U6.out.c5 7
  have b6 : V6'.cell? ⟨q3, 7, none⟩ = some (.slice F.p.1 F.p.2.2.length F.p.2.1) := U6.out.c3 7
  go_wp2_with fail
  clear a6 b6
  refine (Q.asPairs_any F'.p.1 F.p.1 F'.p.2.1 F.p.2.1 F.p.2.2 V6' (by have q := (RV.out V6' U6.out).1; have z := q.p.1; rw [q.ep] at z; exact z) (RV.out V6' U6.out).2.p.1 (by have q := (RV.out V6' U6.out).1; have z := q.p.2; rw [q.ep] at z; simpa using z) (RV.out V6' U6.out).2.p.2.1 (by have := Hs.out.p; show _ < _; omega)).mono ?_
  rintro e V7' ⟨rfl, m7, hm7⟩
  have U7 : Hid (Us F F' lo lc ls q2 q3 q5 w V7') := by rw [hm7]; exact U6.out.drewN m7
  clear hm7 U6
  have a7 : V7'.cell? ⟨q5, 8, none⟩ = some (.slice F'.w.1 (F.w.2.2.length + 1) F'.w.2.1) := U7.out.c5 8
  have b7 : V7'.cell? ⟨q3, 8, none⟩ = some (.slice F.w.1 F.w.2.2.length F.w.2.1) := U7.out.c3 8
  go_wp2_with fail
  clear a7 b7
  refine (Q.asPairs_any F'.w.1 F.w.1 F'.w.2.1 F.w.2.1 F.w.2.2 V7' (by have q := (RV.out V7' U7.out).1; have z := q.w.1; rw [q.ew] at z; exact z) (RV.out V7' U7.out).2.w.1 (by have q := (RV.out V7' U7.out).1; have z := q.w.2; rw [q.ew] at z; simpa using z) (RV.out V7' U7.out).2.w.2.1 (by have := Hs.out.w; show _ < _; omega)).mono ?_
  rintro e V8' ⟨rfl, m8, hm8⟩
  have U8 : Hid (Us F F' lo lc ls q2 q3 q5 w V8') := by rw [hm8]; exact U7.out.drewN m8
  clear hm8 U7
  have b8 : V8'.cell? ⟨q3, 1, none⟩ = some (.slice F.s.1 F.s.2.2.length F.s.2.1) := U8.out.c3 1
  go_wp2_with fail
  clear b8
  have hsl : (F.s.2.2.length : Int) ≤ 1048576 := by have := Hs.out.s; omega
  have hxl : (F.x.2.2.length : Int) ≤ 1048576 := by have := Hs.out.x; omega
  have hul : (F.u.2.2.length : Int) ≤ 1048576 := by have := Hs.out.u; omega
  have hsf : ∀ (a : Addr) (k : FloatKind) (b : Nat) (m : Mode) (w : World), (store a (.float k b) m).run Try.prog w = stored Try.prog w a (.float k b) m := fun a k b m w => run_store Try.prog w a _ m rfl
  go_loopw [7] (fun iv wx => ∃ k : Nat, iv = .int .i64 (k : Int) ∧ k ≤ F.s.2.2.length ∧ Hid (Us F F' lo lc ls q2 q3 q5 w wx)) (fun iv _ => F.s.2.2.length - (intOf iv).toNat)
  case atStart => exact ⟨0, rfl, Nat.zero_le _, U8⟩
  case round =>
    obtain ⟨k, rfl, hk, UU⟩ := hrel
    clear U8
    have RM := hide' (RV.out wr UU.out).1
    have IN := hide' (RV.out wr UU.out).2
    have cS := RM.out.s.2
    rw [RM.out.es, List.length_append, List.length_singleton] at cS
    have cs3 := IN.out.s.2.1
    have e5 : wr.cell? ⟨q5, 1, none⟩ = some (.slice F'.s.1 (F.s.2.2.length + 1) F'.s.2.1) := UU.out.c5 1
    have e3 : wr.cell? ⟨q3, 1, none⟩ = some (.slice F.s.1 F.s.2.2.length F.s.2.1) := UU.out.c3 1
    by_cases hlt : k < F.s.2.2.length
    · have hlt' : (k : Int) < (F.s.2.2.length : Int) := by omega
      have hk64 : (k : Int) < 1048577 := by omega
      obtain ⟨z, hz⟩ : ∃ z, F.s.2.2[k]? = some z := ⟨_, List.getElem?_eq_getElem hlt⟩
      have hz' : F'.s.2.2[k]? = some z := by rw [RM.out.es, List.getElem?_append_left hlt]; exact hz
      obtain ⟨x, off, hx, _, c1, c2⟩ := RM.out.s.1.at hz'
      obtain ⟨y, offb, hy, _, d1, d2⟩ := IN.out.s.1.at hz
      rw [hx] at e5
      rw [hy] at e3
      have hzz := text_eq z.1
      clear hz hz' hx hy RM IN
      go_wp2_with fail
      go_quiet ((go_at_call 55; exact Calls.quiet_of_same (equals_self z.2 _)))
      go_wp2_with fail
      exact ⟨⟨k + 1, by go_num, by omega, UU.out.drewN nq⟩, by simp [intOf]; omega⟩
    · have hkl : k = F.s.2.2.length := by omega
      subst hkl
      have hlt' : ¬ (F.s.2.2.length : Int) < (F.s.2.2.length : Int) := by omega
      clear hlt hk RM IN e5 e3
      go_wp2_with fail
      go_loopw [8] (fun iv wx => ∃ k : Nat, iv = .int .i64 (k : Int) ∧ k ≤ F.x.2.2.length ∧ Hid (Us F F' lo lc ls q2 q3 q5 w wx)) (fun iv _ => F.x.2.2.length - (intOf iv).toNat)
      case atStart => exact ⟨0, rfl, Nat.zero_le _, UU⟩
      case round =>
        clear UU
        obtain ⟨k, rfl, hk, UU⟩ := hrel
        have RM := hide' (RV.out wr UU.out).1
        have IN := hide' (RV.out wr UU.out).2
        have cX := RM.out.x.2
        rw [RM.out.ex, List.length_append, List.length_singleton] at cX
        have cx3 := IN.out.x.2.1
        have e5 : wr.cell? ⟨q5, 10, none⟩ = some (.slice F'.x.1 (F.x.2.2.length + 1) F'.x.2.1) := UU.out.c5 10
        have e3 : wr.cell? ⟨q3, 10, none⟩ = some (.slice F.x.1 F.x.2.2.length F.x.2.1) := UU.out.c3 10
        by_cases hlt : k < F.x.2.2.length
        · have hlt2 : (k : Int) < (F.x.2.2.length : Int) := by omega
          have hk64 : (k : Int) < 1048577 := by omega
          obtain ⟨z, hz⟩ : ∃ z, F.x.2.2[k]? = some z := ⟨_, List.getElem?_eq_getElem hlt⟩
          have hz' : F'.x.2.2[k]? = some z := by rw [RM.out.ex, List.getElem?_append_left hlt]; exact hz
          obtain ⟨x, off, hx, _, c1, c2, c3⟩ := RM.out.x.1.at hz'
          obtain ⟨y, offb, hy, _, d1, d2, d3⟩ := IN.out.x.1.at hz
          rw [hx] at e5
          rw [hy] at e3
          have hz1 := text_eq z.1
          have hz2 := text_eq z.2.1
          have hz3 := text_eq z.2.2
          clear hz hz' hx hy RM IN
          go_wp2_with fail
          go_quiet (fail)
          go_wp2_with fail
          exact ⟨⟨k + 1, by go_num, by omega, UU.out.drewN nq⟩, by simp [intOf]; omega⟩
        · have hkl : k = F.x.2.2.length := by omega
          subst hkl
          have hlt2 : ¬ (F.x.2.2.length : Int) < (F.x.2.2.length : Int) := by omega
          obtain ⟨x, off, hx, _, c1, c2⟩ := RM.out.s.1.at (show F'.s.2.2[F.s.2.2.length]? = some tsharp by rw [RM.out.es]; simp)
          obtain ⟨y, offb, hy, _, d1, d2, d3⟩ := RM.out.x.1.at (show F'.x.2.2[F.x.2.2.length]? = some xsharp by rw [RM.out.ex]; simp)
          have e51 : wr.cell? ⟨q5, 1, none⟩ = some (.slice F'.s.1 (F.s.2.2.length + 1) F'.s.2.1) := UU.out.c5 1
          rw [hx] at e51
          rw [hy] at e5
          have htt := text_eq ({ data := #[35] } : ByteArray)
          have hte := text_eq (ByteArray.empty)
          change wr.cell? ⟨x, off + F.s.2.2.length * 2, none⟩ = some (.string { data := #[35] }) at c1
          change wr.cell? ⟨x, off + F.s.2.2.length * 2 + 1, none⟩ = some (.float .f64 0) at c2
          change wr.cell? ⟨y, offb + F.x.2.2.length * 3, none⟩ = some (.string { data := #[35] }) at d1
          change wr.cell? ⟨y, offb + F.x.2.2.length * 3 + 1, none⟩ = some (.string ByteArray.empty) at d2
          change wr.cell? ⟨y, offb + F.x.2.2.length * 3 + 2, none⟩ = some (.string ByteArray.empty) at d3
          clear hlt hk RM IN hx hy
          have hfe := eq00
          go_wp2_with fail
          clear hfe c1 c2 d1 d2 d3 e51 e5 e3 cX cx3 cS cs3
          go_loopw [9] (fun iv wx => ∃ k : Nat, iv = .int .i64 (k : Int) ∧ k ≤ F.u.2.2.length ∧ Hid (Us F F' lo lc ls q2 q3 q5 w wx)) (fun iv _ => F.u.2.2.length - (intOf iv).toNat)
          case atStart => exact ⟨0, rfl, Nat.zero_le _, UU⟩
          case round =>
            clear UU
            obtain ⟨k, rfl, hk, UU⟩ := hrel
            have RM := hide' (RV.out wr UU.out).1
            have IN := hide' (RV.out wr UU.out).2
            have hll : Hid (ls.length = F.u.2.2.length) := by have := congrArg List.length RM.out.el; rw [List.length_map] at this; exact this
            have cU := RM.out.u.2
            rw [RM.out.eu, List.length_append, List.length_singleton, List.length_map] at cU
            have cl := RM.out.l.2
            have cu3 := IN.out.u.2.1
            have e5 : wr.cell? ⟨q5, 9, none⟩ = some (.slice F'.u.1 (ls.length + 1) F'.u.2.1) := UU.out.c5 9
            have e3 : wr.cell? ⟨q3, 9, none⟩ = some (.slice F.u.1 F.u.2.2.length F.u.2.1) := UU.out.c3 9
            have e2 : wr.cell? ⟨q2, 22, none⟩ = some (.slice lo ls.length lc) := UU.out.c2 22
            by_cases hlt : k < F.u.2.2.length
            · have hlt3 : (k : Int) < (F.u.2.2.length : Int) := by omega
              have hlt4 : (k : Int) < (ls.length : Int) := by have := hll.out; omega
              have hk64 : (k : Int) < 1048577 := by omega
              have hl64 : (ls.length : Int) ≤ 1048576 := by have := hll.out; omega
              obtain ⟨x, hx⟩ : ∃ x, ls[k]? = some x := ⟨_, List.getElem?_eq_getElem (by have := hll.out; omega)⟩
              obtain ⟨R, g, c⟩ := x
              have hRu : F.u.2.2[k]? = some R := by rw [← RM.out.el, List.getElem?_map, hx]; rfl
              obtain ⟨ub, uoff, huo, hub, hc⟩ := IN.out.u.1.1.at (show (F.u.2.2.map Ru.cells)[k]? = some R.cells by rw [List.getElem?_map, hRu]; rfl)
              obtain ⟨hRo, ⟨bv, hbv⟩, hRl⟩ := IN.out.u.1.2 R (List.mem_of_getElem? hRu)
              obtain ⟨vb, voff, hvo, hvb, hd⟩ := RM.out.u.1.at (show (F'.u.2.2.map Ru.cells)[k]? = some (Ru.moved (R, g, c)).cells by rw [RM.out.eu, List.getElem?_map, List.getElem?_append_left (by rw [List.length_map]; have := hll.out; omega), List.getElem?_map, hx]; rfl)
              obtain ⟨lb, loff, hlo, hlb, he⟩ := RM.out.l.1.at (show (ls.map lcells)[k]? = some (lcells (R, g, c)) by rw [List.getElem?_map, hx]; rfl)
              obtain ⟨hLa, hLc⟩ := RM.out.la (R, g, c) (List.mem_of_getElem? hx)
              obtain ⟨d, who, what, ro, rc, rl, cd, lv⟩ := R
              simp only at hbv hRo hRl hLa hLc
              subst hbv
              have x0 : wr.cell? ⟨vb, voff + k * 6, none⟩ = some (.bool bv) := hd 0 _ rfl
              have x1 : wr.cell? ⟨vb, voff + k * 6 + 1, none⟩ = some (.string who) := hd 1 _ rfl
              have x2 : wr.cell? ⟨vb, voff + k * 6 + 2, none⟩ = some (.string what) := hd 2 _ rfl
              have x3 : wr.cell? ⟨vb, voff + k * 6 + 3, none⟩ = some (.slice (some ⟨g, 0, none⟩) rl.length c) := hd 3 _ rfl
              have x4 : wr.cell? ⟨vb, voff + k * 6 + 4, none⟩ = some (.int .i8 cd) := hd 4 _ rfl
              have x5 : wr.cell? ⟨vb, voff + k * 6 + 5, none⟩ = some (.float .f64 lv) := hd 5 _ rfl
              have al : Hid (∀ (o : Obj) (p : Addr) (v : Value), p.block < wr.heap.size → wr.cell? p = some v → (wr.alloc o).cell? p = some v) := fun o p v hp q => (World.cell?_of_block (w := wr) (Below.heap_alloc _ _ _ hp)).trans q
              have hq3 := lt_of_heap UU.out.h3
              rw [hvo] at e5
              rw [huo] at e3
              rw [hlo] at e2
              have y9 : ∀ o, (wr.alloc o).cell? ⟨q3, 9, none⟩ = some (.slice (some ⟨ub, uoff, none⟩) F.u.2.2.length F.u.2.1) := fun o => al.out o _ _ hq3 e3
              have y0 : ∀ o, (wr.alloc o).cell? ⟨ub, uoff + k * 6, none⟩ = some (.bool bv) := fun o => al.out o _ _ hub (hc 0 _ rfl)
              have y1 : ∀ o, (wr.alloc o).cell? ⟨ub, uoff + k * 6 + 1, none⟩ = some (.string who) := fun o => al.out o _ _ hub (hc 1 _ rfl)
              have y2 : ∀ o, (wr.alloc o).cell? ⟨ub, uoff + k * 6 + 2, none⟩ = some (.string what) := fun o => al.out o _ _ hub (hc 2 _ rfl)
              have y3 : ∀ o, (wr.alloc o).cell? ⟨ub, uoff + k * 6 + 3, none⟩ = some (.slice ro rl.length rc) := fun o => al.out o _ _ hub (hc 3 _ rfl)
              have y4 : ∀ o, (wr.alloc o).cell? ⟨ub, uoff + k * 6 + 4, none⟩ = some (.int .i8 cd) := fun o => al.out o _ _ hub (hc 4 _ rfl)
              have y5 : ∀ o, (wr.alloc o).cell? ⟨ub, uoff + k * 6 + 5, none⟩ = some (.float .f64 lv) := fun o => al.out o _ _ hub (hc 5 _ rfl)
              have E2 := hide' e2
              have he0 : Hid (wr.cell? ⟨lb, loff + k, none⟩ = some (.slice (some ⟨g, 0, none⟩) (rl.length + 1) c)) := by have q := he 0 _ rfl; rw [Nat.mul_one, Nat.add_zero] at q; exact q
              have HRo := hide' hRo
              have HLa := hide' (And.intro hLa hLc)
              have hrl64 : (rl.length : Int) ≤ 1048576 := by omega
              have HLB := hide' hlb
              clear hx hRu hc hd he hRo hLa hLc RM IN huo hvo hlo hub hvb hlb e2 hRl
              go_wp2_with fail
              obtain ⟨V, hV⟩ : ∃ V, V = ((wr.alloc (.cells #[.bool bv, .string who, .string what, .slice (some ⟨g, 0, none⟩) rl.length c, .int .i8 cd, .float .f64 lv] 27)).alloc (.cells #[.bool bv, .string who, .string what, .slice ro rl.length rc, .int .i8 cd, .float .f64 lv] 27)) := ⟨_, rfl⟩
              rw [← hV]
              have tV : Below wr.heap.size wr V := by rw [hV]; exact ((Below.refl _ _).alloc (Nat.le_refl _) _).alloc (by simp) _
              have k10 : V.heap[wr.heap.size]? = some (.cells #[.bool bv, .string who, .string what, .slice (some ⟨g, 0, none⟩) rl.length c, .int .i8 cd, .float .f64 lv] 27 (0, 0)) := by rw [hV]; exact (Below.heap_alloc _ _ _ (by simp)).trans (heap_alloc_new wr _)
              have k11 : V.heap[wr.heap.size + 1]? = some (.cells #[.bool bv, .string who, .string what, .slice ro rl.length rc, .int .i8 cd, .float .f64 lv] 27 (0, 0)) := by
                have q := heap_alloc_new (wr.alloc (.cells #[.bool bv, .string who, .string what, .slice (some ⟨g, 0, none⟩) rl.length c, .int .i8 cd, .float .f64 lv] 27)) (.cells #[.bool bv, .string who, .string what, .slice ro rl.length rc, .int .i8 cd, .float .f64 lv] 27)
                rw [show (wr.alloc (.cells #[.bool bv, .string who, .string what, .slice (some ⟨g, 0, none⟩) rl.length c, .int .i8 cd, .float .f64 lv] 27)).heap.size = wr.heap.size + 1 by simp] at q
                rw [hV]; exact q
              have UV := hide' (UU.out.below tV)
              have p0 : V.cell? ⟨wr.heap.size, 0, none⟩ = some (.bool bv) := by rw [Lib.cell_of_heap k10]; rfl
              have p1 : V.cell? ⟨wr.heap.size, 1, none⟩ = some (.string who) := by rw [Lib.cell_of_heap k10]; rfl
              have p2 : V.cell? ⟨wr.heap.size, 2, none⟩ = some (.string what) := by rw [Lib.cell_of_heap k10]; rfl
              have p3 : V.cell? ⟨wr.heap.size, 3, none⟩ = some (.slice (some ⟨g, 0, none⟩) rl.length c) := by rw [Lib.cell_of_heap k10]; rfl
              have p4 : V.cell? ⟨wr.heap.size, 4, none⟩ = some (.int .i8 cd) := by rw [Lib.cell_of_heap k10]; rfl
              have p5 : V.cell? ⟨wr.heap.size, 5, none⟩ = some (.float .f64 lv) := by rw [Lib.cell_of_heap k10]; rfl
              have r0 : V.cell? ⟨wr.heap.size + 1, 0, none⟩ = some (.bool bv) := by rw [Lib.cell_of_heap k11]; rfl
              have r1 : V.cell? ⟨wr.heap.size + 1, 1, none⟩ = some (.string who) := by rw [Lib.cell_of_heap k11]; rfl
              have r2 : V.cell? ⟨wr.heap.size + 1, 2, none⟩ = some (.string what) := by rw [Lib.cell_of_heap k11]; rfl
              have r3 : V.cell? ⟨wr.heap.size + 1, 3, none⟩ = some (.slice ro rl.length rc) := by rw [Lib.cell_of_heap k11]; rfl
              have r4 : V.cell? ⟨wr.heap.size + 1, 4, none⟩ = some (.int .i8 cd) := by rw [Lib.cell_of_heap k11]; rfl
              have r5 : V.cell? ⟨wr.heap.size + 1, 5, none⟩ = some (.float .f64 lv) := by rw [Lib.cell_of_heap k11]; rfl
              have z2 : V.cell? ⟨q2, 22, none⟩ = some (.slice (some ⟨lb, loff, none⟩) ls.length lc) := (tV.cell (p := ⟨q2, 22, none⟩) (lt_of_heap UU.out.h2)).trans E2.out
              have zl : V.cell? ⟨lb, loff + k, none⟩ = some (.slice (some ⟨g, 0, none⟩) (rl.length + 1) c) := (tV.cell (p := ⟨lb, loff + k, none⟩) HLB.out).trans he0.out
              have CL : Hid (∀ n, Calls Try.prog 53 #[.slice (some ⟨g, 0, none⟩) (rl.length + 1) c, .slice ro rl.length rc] (V.drewN n) fun e w' => e = .returned (.bool true) ∧ ∃ m, w' = (V.drewN n).drewN m) := fun n => by
                have tn : Below wr.heap.size wr (V.drewN n) := ⟨tV.os, tV.tape, tV.output, tV.size, tV.block⟩
                exact S.asLong_any (some ⟨g, 0, none⟩) ro c rc rl _ (HLa.out.1.below tn) (HRo.out.1.below tn) HLa.out.2 HRo.out.2.1 (by show _ < _; omega)
              have hw1 := text_eq who
              have hw2 := text_eq what
              clear hV tV k10 k11 x0 x1 x2 x3 x4 x5 y0 y1 y2 y3 y4 y5 y9 al E2 he0 HRo HLa HLB e5 e3 UU
              generalize wr.heap.size + 1 = h11 at *
              generalize wr.heap.size = h10 at *
              go_quiet ((first | (go_at_call 55; exact Calls.quiet_of_same (equals_self lv _)) | (go_at_call 53; exact Calls.quiet_of (CL.out _))))
              go_wp2_with fail
              exact ⟨⟨k + 1, by go_num, by omega, UV.out.drewN nq⟩, by simp [intOf]; omega⟩
            · have hkl : k = F.u.2.2.length := by omega
              subst hkl
              have hlt3 : ¬ (F.u.2.2.length : Int) < (F.u.2.2.length : Int) := by omega
              obtain ⟨vb, voff, hvo, hvb, hd⟩ := RM.out.u.1.at (show (F'.u.2.2.map Ru.cells)[F.u.2.2.length]? = some usharp.cells by rw [RM.out.eu, List.map_append, List.getElem?_append_right (by simp [hll.out])]; simp [hll.out])
              rw [hvo, hll.out] at e5
              rw [hll.out] at cU
              have x0 : wr.cell? ⟨vb, voff + F.u.2.2.length * 6, none⟩ = some (.bool false) := hd 0 _ rfl
              have x1 : wr.cell? ⟨vb, voff + F.u.2.2.length * 6 + 1, none⟩ = some (.string { data := #[35] }) := hd 1 _ rfl
              have x2 : wr.cell? ⟨vb, voff + F.u.2.2.length * 6 + 2, none⟩ = some (.string ByteArray.empty) := hd 2 _ rfl
              have x3 : wr.cell? ⟨vb, voff + F.u.2.2.length * 6 + 3, none⟩ = some (.slice none 0 0) := hd 3 _ rfl
              have x4 : wr.cell? ⟨vb, voff + F.u.2.2.length * 6 + 4, none⟩ = some (.int .i8 0) := hd 4 _ rfl
              have x5 : wr.cell? ⟨vb, voff + F.u.2.2.length * 6 + 5, none⟩ = some (.float .f64 0) := hd 5 _ rfl
              have htt := text_eq ({ data := #[35] } : ByteArray)
              have hte := text_eq (ByteArray.empty)
              have UB := hide' UU.out.b
              clear hd hvo hvb RM IN UU RV HR H Hs hlt hk e2
              go_wp2_with fail
              go_ret
              exact ⟨rfl, UB.out.trans (((Below.refl _ _).alloc (Nat.le_refl _) _).mono UB.out.size)⟩
end U
end Go.Proofs.Ytgbhcfephhbalaa
