import Derived.Test.YtgjdpgmffhihnabIxI
import Derived.ProofKit
import Derived.Deep.RegionLaw
set_option linter.unusedVariables false
set_option linter.unusedSimpArgs false
namespace Go.Proofs.Ytgjdpgmffhihnab
open Go.RowKit Go.Maps

namespace Q
theorem laidOutQ : laidOutB Try.prog = true := by kernel_rfl
theorem cells25 : Try.prog.cellsOf 25 = 2 := by kernel_rfl
theorem cells3 : Try.prog.cellsOf 3 = 1 := by kernel_rfl
theorem row25 : 25 < Try.prog.types.size := of_decide_eq_true (by kernel_rfl)
theorem wide25 : (match Try.prog.underlying 25 with | some (.array _ _) | some (.struct _) => true | _ => false) = true := by rw [Try.underlying25]
theorem deep25 : Try.prog.keyTypeAt (Try.prog.types.size + 1) 25 = true := by kernel_rfl
theorem formed25 {c0 c1 : Value} : (Value.agg #[c0, c1]).formed Try.prog 25 = true := by simp [Value.formed, Try.underlying25, cells25]
theorem law : Keyed Try.prog 25 := Keyed.of_law (deep_law_laid laidOutQ (m := 2) (by omega) row25 (by kernel_rfl) wide25)
def okk (k : Int × Int) : Prop := (Lit.int .i64 k.1).wf = true ∧ (Lit.int .i64 k.2).wf = true
def lit (k : Int × Int) : Lit := (DataW.agg [.lit (.int .i64 k.1), .lit (.int .i64 k.2)] : DataW Unit).asKey
def cells (k : Int × Int) : List Value := [.int .i64 k.1, .int .i64 k.2]
theorem hkey {k : Int × Int} (h : okk k) : keyOf Try.prog 25 (.agg #[.int .i64 k.1, .int .i64 k.2]) = some (lit k) := by
  have hd : DataW.Trod (fun _ : TypeId × Value => ()) Try.prog default 0 (fun _ => true) true 25 (.agg #[.int .i64 k.1, .int .i64 k.2]) (.agg [.lit (.int .i64 k.1), .lit (.int .i64 k.2)]) [] := by
    refine ⟨3, ?_⟩
    have hr : List.range 2 = [0, 1] := rfl
    simp [DataW.trod, Try.underlying25, Try.underlying3, h.1, h.2, Value.cells, cells25, cells3, hr]
  exact (keyOf_asKey deep25 wide25 formed25 hd).1
theorem inj (j k : Int × Int) (hj : okk j) (hk : okk k) (h : lit j = lit k) : j = k := by
  have a := hkey hj
  rw [h] at a
  have := law.inj a (hkey hk)
  simp at this
  exact Prod.ext this.1 this.2
theorem isKey {k : Int × Int} (h : okk k) : WideAt.IsKeyLit (lit k) := law.key (hkey h)
abbrev IxQ (B x bm : Nat) (ao : Option Addr) (cap : Nat) (zs : List (Int × Int)) (w : World) : Prop := Ix Try.prog 57 25 3 25 2 cells lit okk B x bm ao cap zs w
theorem zeroE (w : World) : (zeroValue 3).run Try.prog w = .ok (.int .i64 0) w := by kernel_rfl
theorem lit_int {q : IntKind} {a b : Int} (h : (DataW.lit (.int q a) : DataW Unit) = .lit (.int q b)) : a = b := by simpa using h
/-- a look-up in the index's map -/
theorem look {B x bm : Nat} {ao : Option Addr} {cap : Nat} {zs : List (Int × Int)} {w : World} (h : IxQ B x bm ao cap zs w) {k : Int × Int} (hk : okk k) :
    (Instr.lookup 55 (.map (some bm)) (.agg #[.int .i64 k.1, .int .i64 k.2]) true).run Try.prog w = .ok (.tuple #[.int .i64 (num zs k : Nat), .bool (isIn zs k)]) w := by
  obtain ⟨n, D, hn, hown, hh⟩ := h.map
  obtain ⟨h1, h2⟩ := hh k hk
  obtain ⟨v, ps, hrun, hv⟩ := hown.look_ok law Try.underlying55 (zeroE w) (plainElem_int Try.underlying3 (by decide)) (hkey hk)
  obtain ⟨c, rfl, hc, _⟩ := plainElem_int_inv Try.underlying3 hv
  simp only [Prod.mk.injEq] at hc
  rw [h2] at hc
  rw [hrun, h1, lit_int hc.1]
theorem ix_alloc {B x bm : Nat} {ao : Option Addr} {cap : Nat} {zs : List (Int × Int)} {w : World} (h : IxQ B x bm ao cap zs w) (o : Obj) : IxQ B x bm ao cap zs (w.alloc o) :=
  h.kept ((Turn.refl (fun _ => False) w).alloc o) (fun q => q) (fun q => q) (fun _ _ q => q)
theorem ix_drewN {B x bm : Nat} {ao : Option Addr} {cap : Nat} {zs : List (Int × Int)} {w : World} (h : IxQ B x bm ao cap zs w) (n : Nat) : IxQ B x bm ao cap zs (w.drewN n) := ⟨h.hx, h.hm, h.ne, h.hb, h.row, h.oks, h.map⟩

set_option maxRecDepth 100000 in
set_option maxHeartbeats 1000000 in
theorem find_any (B x bm : Nat) (ao : Option Addr) (cap : Nat) (zs : List (Int × Int)) (k : Int × Int) (w : World) (h : IxQ B x bm ao cap zs w) (hk : okk k) :
    Calls Try.prog 9 #[.pointer (some ⟨x, 0, none⟩), .agg #[.int .i64 k.1, .int .i64 k.2]] w fun e w' => e = .returned (.tuple #[.int .i64 (num zs k : Nat), .bool (isIn zs k)]) ∧ Turn (fun _ => False) w w' := by
  have h1 := ix_alloc h (.cells #[.int .i64 k.1, .int .i64 k.2] 25)
  have c1 : w.cell? ⟨x, 1, none⟩ = some (.map (some bm)) := h.c1
  have hlx := h.lt
  have l1 := look (ix_drewN h1 1) hk
  have l1' : (Instr.lookup 55 (.map (some bm)) (.agg #[.int .i64 k.1, .int .i64 k.2]) true).run Try.prog (w.alloc (.cells #[.int .i64 k.1, .int .i64 k.2] 25)).drew = .ok (.tuple #[.int .i64 (num zs k : Nat), .bool (isIn zs k)]) (w.alloc (.cells #[.int .i64 k.1, .int .i64 k.2] 25)).drew := l1
  clear l1 h1 h
  generalize isIn zs k = d at *
  generalize ((num zs k : Nat) : Int) = m at *
  go_enter Try.func9, Try.ntmps9
  go_wp2
  go_region
  go_wp2
  go_ret2
  refine ⟨rfl, ?_⟩
  exact ((Turn.refl _ w).alloc _).drew
theorem part0 (w : World) (x y : Value) : (part 3 #[x, y] 0).run Try.prog w = .ok x w := by
  kernel_rfl
theorem part1 (w : World) (x y : Value) : (part 3 #[x, y] 1).run Try.prog w = .ok y w := by
  kernel_rfl
theorem eqArr (w : World) (a b c d : Int) : (Op.equalIn 10000 25 (.agg #[.int .i64 a, .int .i64 b]) (.agg #[.int .i64 c, .int .i64 d])).run Try.prog w = .ok (a == c && b == d) w := by
  rw [show (10000 : Nat) = 9999 + 1 from rfl]
  unfold Op.equalIn
  have hr : List.range' 0 2 = [0, 1] := rfl
  have e1 := fun (w : World) (a b : Int) => run_equalIn_int (P := Try.prog) w 9998 3 .i64 .i64 a b Try.underlying3
  simp only [Nat.reduceAdd] at e1
  simp [run_underlying Try.underlying25, hr, part0, part1, e1]
  cases h1 : (a == c) <;> cases h2 : (b == d) <;> simp_all

theorem ret_int {k : IntKind} {a b : Int} (h : a = b) : Ending.returned (.int k a) = .returned (.int k b) := by rw [h]

set_option maxRecDepth 100000 in
set_option maxHeartbeats 1000000 in
theorem of_old (B x bm : Nat) (ao : Option Addr) (cap : Nat) (zs : List (Int × Int)) (k : Int × Int) (w : World) (h : IxQ B x bm ao cap zs w) (hk : okk k) (hin : k ∈ zs) :
    Calls Try.prog 8 #[.pointer (some ⟨x, 0, none⟩), .agg #[.int .i64 k.1, .int .i64 k.2]] w fun e w' => e = .returned (.int .i64 (num zs k : Nat)) ∧ Turn (fun _ => False) w w' := by
  have h1 := ix_alloc h (.cells #[.int .i64 k.1, .int .i64 k.2] 25)
  have c1 : w.cell? ⟨x, 1, none⟩ = some (.map (some bm)) := h.c1
  have hlx := h.lt
  have l1 := look (ix_drewN h1 1) hk
  rw [isIn_yes hin] at l1
  have l1' : (Instr.lookup 55 (.map (some bm)) (.agg #[.int .i64 k.1, .int .i64 k.2]) true).run Try.prog (w.alloc (.cells #[.int .i64 k.1, .int .i64 k.2] 25)).drew = .ok (.tuple #[.int .i64 (num zs k : Nat), .bool true]) (w.alloc (.cells #[.int .i64 k.1, .int .i64 k.2] 25)).drew := l1
  clear l1 h1 h hin
  generalize ((num zs k : Nat) : Int) = m at *
  go_enter Try.func8, Try.ntmps8
  go_wp2
  go_region
  go_wp2
  go_ret
  exact ⟨rfl, ((Turn.refl _ w).alloc _).drew⟩

def Own (x bm : Nat) (ao : Option Addr) (j : Nat) : Prop := j = x ∨ j = bm ∨ ∃ a, ao = some a ∧ j = a.block
theorem info25 : (Try.prog.info? 25).map (fun i => (i.zero, i.size, i.bytes)) = some (some (.agg #[.int .i64 0, .int .i64 0]), 2, 16) := by kernel_rfl
theorem two_new (w : World) (o : Obj) (x y : Value) (t : TypeId) : ∀ j u, [x, y][j]? = some u → ((w.alloc o).alloc (.cells #[x, y] t)).cell? ((⟨w.heap.size + 1, 0, none⟩ : Addr).add j) = some u := by
  intro j u hj
  have hb : ((w.alloc o).alloc (.cells #[x, y] t)).heap[w.heap.size + 1]? = some (.cells #[x, y] t) := by
    have := heap_alloc_new (w.alloc o) (.cells #[x, y] t)
    simpa using this
  have := World.news_of_block hb j u (by simpa using hj)
  exact this

theorem alloc2_cell {w w1 : World} {o1 o2 : Obj} {row : Option Nat} (hg : ((w.alloc o1).alloc o2).grownBy w1 row) {x o : Nat} (hx : x < w.heap.size) (hr : some x ≠ row) : w1.cell? ⟨x, o, none⟩ = w.cell? ⟨x, o, none⟩ :=
  World.cell?_of_block (w := w) ((hg.block x (by simp; omega) hr).trans ((Below.heap_alloc _ _ _ (by simp; omega)).trans (Below.heap_alloc _ _ _ hx)))
theorem alloc2_frozen {w w1 : World} {o1 o2 : Obj} {row : Option Nat} (hg : ((w.alloc o1).alloc o2).grownBy w1 row) {x o : Nat} (hx : x < w.heap.size) (hr : some x ≠ row) : w1.frozen? ⟨x, o, none⟩ = w.frozen? ⟨x, o, none⟩ :=
  World.frozen?_of_block (w := w) ((hg.block x (by simp; omega) hr).trans ((Below.heap_alloc _ _ _ (by simp; omega)).trans (Below.heap_alloc _ _ _ hx)))
theorem alloc2_box {w w1 : World} {o1 o2 : Obj} {row : Option Nat} (hg : ((w.alloc o1).alloc o2).grownBy w1 row) (hr : some w.heap.size ≠ row) : w1.heap[w.heap.size]? = some o1 :=
  (hg.block w.heap.size (by simp; omega) hr).trans ((Below.heap_alloc _ _ _ (by simp)).trans (heap_alloc_new w o1))

set_option maxRecDepth 100000 in
set_option maxHeartbeats 2000000 in
theorem of_new (B x bm : Nat) (ao : Option Addr) (cap : Nat) (zs : List (Int × Int)) (k : Int × Int) (w : World) (h : IxQ B x bm ao cap zs w) (hk : okk k) (hin : k ∉ zs) (hf : (zs.length : Int) < (1048576 : Int)) :
    Calls Try.prog 8 #[.pointer (some ⟨x, 0, none⟩), .agg #[.int .i64 k.1, .int .i64 k.2]] w fun e w' => e = .returned (.int .i64 (zs.length + 1 : Nat)) ∧ ∃ g cap', IxQ B x bm (some ⟨g, 0, none⟩) cap' (zs ++ [k]) w' ∧ Turn (Own x bm ao) w w' ∧ (ao = some ⟨g, 0, none⟩ ∨ w.heap.size ≤ g) := by
  have h1 := ix_alloc h (.cells #[.int .i64 k.1, .int .i64 k.2] 25)
  have c1 : w.cell? ⟨x, 1, none⟩ = some (.map (some bm)) := h.c1
  have c0 := h.c0
  have f0 := h.f0
  have hlx := h.lt
  have hlm := h.ltm
  have hBx := h.hx
  have hrow := h.row
  have hnot := h.apart (by decide)
  have l1 := look (ix_drewN h1 1) hk
  rw [isIn_no hin] at l1
  have l1' : (Instr.lookup 55 (.map (some bm)) (.agg #[.int .i64 k.1, .int .i64 k.2]) true).run Try.prog (w.alloc (.cells #[.int .i64 k.1, .int .i64 k.2] 25)).drew = .ok (.tuple #[.int .i64 (num zs k : Nat), .bool false]) (w.alloc (.cells #[.int .i64 k.1, .int .i64 k.2] 25)).drew := l1
  have hge : decide ((1048576 : Int) ≤ (zs.length : Int)) = false := by simpa using hf
  have hfl : zs.length ≤ 1048576 := by omega
  have b1 : zs.length + 1 ≤ maxLen := by unfold maxLen; omega
  have b2 : (zs.length + 1) * 16 ≤ 140737488355328 := by omega
  have B1 := I.hide' b1
  have B2 := I.hide' b2
  have hBw : B ≤ w.heap.size := by omega
  obtain ⟨i0, hi, hz0, hz1, hz2⟩ := info_parts info25
  have hxr : some x ≠ (Value.slice ao zs.length cap).ownBlock := by
    intro q; cases ao with
    | none => cases q
    | some a => exact (hnot a rfl).1 (by simpa [Value.ownBlock] using q.symm)
  have hmr : some bm ≠ (Value.slice ao zs.length cap).ownBlock := by
    intro q; cases ao with
    | none => cases q
    | some a => exact (hnot a rfl).2.1 (by simpa [Value.ownBlock] using q.symm)
  have heq := eqArr
  have hbr : some w.heap.size ≠ (Value.slice ao zs.length cap).ownBlock := by
    intro q; cases ao with
    | none => cases q
    | some a => have h1 := (hnot a rfl).2.2.2; have h2 : w.heap.size = a.block := by simpa [Value.ownBlock] using q
                omega
  have hid1 : (k.1 == k.1) = true := by simp
  have hid2 : (k.2 == k.2) = true := by simp
  clear l1 h1 hf hfl b1 b2
  generalize ((num zs k : Nat) : Int) = m at *
  go_enter Try.func8, Try.ntmps8
  go_wp2
  go_region
  go_wp2
  go_region_law ((refine step_append_lies _ (by rfl) _ _ 27 (by rfl) B 25 i0 (.agg #[.int .i64 0, .int .i64 0]) 2 16 Try.underlying27 hi hz0 hz1 hz2 rfl (by decide) _ zs.length (zs.flatMap cells) (by rfl) (by exact (hrow.alloc _).alloc _) ⟨w.heap.size + 1, 0, none⟩ 1 1 [.int .i64 k.1, .int .i64 k.2] (by rfl) (by rfl) (by exact two_new _ _ _ _ _) (by simp [Value.oneCell']) (by decide) B1.out B2.out (by simp; omega) (w.heap.size + 1 + 1) (by simp) ?_; intro g cap' w1 hrow1 hgrow0 hat1 hlt1; have hgrow : ((w.alloc (.cells #[.int .i64 k.1, .int .i64 k.2] 25)).alloc (.cells #[.int .i64 k.1, .int .i64 k.2] 25)).grownBy w1 (Value.slice ao zs.length cap).ownBlock := ⟨hgrow0.os, hgrow0.tape, hgrow0.output, hgrow0.size, hgrow0.block⟩; clear hgrow0; have c0' := (alloc2_cell hgrow hlx hxr).trans c0; have c1' := (alloc2_cell (o := 1) hgrow hlx hxr).trans c1; have f0' := (alloc2_frozen hgrow hlx hxr).trans f0; have hbx := alloc2_box hgrow hbr; have k0' : w1.cell? ⟨w.heap.size, 0, none⟩ = some (.int .i64 k.1) := Lib.cell_of_heap hbx 0; have k1' : w1.cell? ⟨w.heap.size, 1, none⟩ = some (.int .i64 k.2) := Lib.cell_of_heap hbx 1))
  all_goals go_wp2
  all_goals
    have hat2 : (Value.slice ao zs.length cap).ownBlock = some g ∨ g = w.heap.size + 1 + 1 := hat1
    clear hat1
    have hxg : x ≠ g := by
      rcases hat2 with q | q
      · intro e; exact hxr (by rw [e]; exact q.symm)
      · omega
    have hmg : bm ≠ g := by
      rcases hat2 with q | q
      · intro e; exact hmr (by rw [e]; exact q.symm)
      · omega
    have hgo : ao = some ⟨g, 0, none⟩ ∨ w.heap.size ≤ g := by
      rcases hat2 with q | q
      · cases ao with
        | none => cases q
        | some a =>
          left
          rcases hrow.2 with ⟨hv, _⟩ | ⟨g', cap'', cur, hv, _⟩
          · cases hv
          · simp only [Value.slice.injEq, Option.some.injEq] at hv
            obtain ⟨rfl, _, _⟩ := hv
            simp only [Value.ownBlock, Option.some.injEq] at q
            rw [q]
      · right; omega
    have hsz1 : w.heap.size + 2 ≤ w1.heap.size := by have := hgrow.size; simpa using this
    obtain ⟨n, D, hn, hown, hh⟩ := h.map
    have hown2 : (w1.setCell ⟨x, 0, none⟩ (.slice (some ⟨g, 0, none⟩) (zs.length + 1) cap')).ownsMap Try.prog 25 (plainElem Try.prog 3) bm n D := (((hown.alloc _).alloc _).kept hgrow hmr).setCell (fun q => h.ne q.symm) _
    have hrow2 : (w1.setCell ⟨x, 0, none⟩ (.slice (some ⟨g, 0, none⟩) (zs.length + 1) cap')).ownsRow B 25 2 (.slice (some ⟨g, 0, none⟩) (zs.length + 1) cap') (zs.length + 1) (zs.flatMap cells ++ [.int .i64 k.1, .int .i64 k.2]) := (Turn.refl (fun j => j = x) w1).setCell (p := ⟨x, 0, none⟩) (fun _ => rfl) _ |>.row hrow1 (fun g' hg' => by cases hg'; exact fun e => hxg e.symm)
    have t2 : Turn (Own x bm ao) w (w1.setCell ⟨x, 0, none⟩ (.slice (some ⟨g, 0, none⟩) (zs.length + 1) cap')) :=
      ((((Turn.refl _ w).alloc _).alloc _).grown hgrow (fun j hj _ => by cases ao with
        | none => cases hj
        | some a => cases hj; exact .inr (.inr ⟨a, rfl, rfl⟩))).setCell (p := ⟨x, 0, none⟩) (fun _ => .inl rfl) _
    have hb1 : w1.heap[x]? = some (.cells #[.slice ao zs.length cap, .map (some bm)] 57 (0, 0)) := (hgrow.block x (by simp; omega) hxr).trans ((Below.heap_alloc _ _ _ (by simp; omega)).trans ((Below.heap_alloc _ _ _ hlx).trans h.hb))
    have hb2 : (w1.setCell ⟨x, 0, none⟩ (.slice (some ⟨g, 0, none⟩) (zs.length + 1) cap')).heap[x]? = some (.cells #[.slice (some ⟨g, 0, none⟩) (zs.length + 1) cap', .map (some bm)] 57 (0, 0)) := by
      simp [World.setCell, Array.getElem?_modify, hb1]
    have hbx2 : (w1.setCell ⟨x, 0, none⟩ (.slice (some ⟨g, 0, none⟩) (zs.length + 1) cap')).heap[w.heap.size]? = some (.cells #[.int .i64 k.1, .int .i64 k.2] 25) := (Below.heap_setCell _ _ _ _ (by show w.heap.size ≠ x; omega)).trans hbx
    generalize (w1.setCell ⟨x, 0, none⟩ (.slice (some ⟨g, 0, none⟩) (zs.length + 1) cap')) = w2 at *
    have d0 : w2.cell? ⟨x, 0, none⟩ = some (.slice (some ⟨g, 0, none⟩) (zs.length + 1) cap') := by rw [Lib.cell_of_heap hb2]; rfl
    have d1 : w2.cell? ⟨x, 1, none⟩ = some (.map (some bm)) := by rw [Lib.cell_of_heap hb2]; rfl
    have d2 : w2.cell? ⟨w.heap.size, 0, none⟩ = some (.int .i64 k.1) := Lib.cell_of_heap hbx2 0
    have d3 : w2.cell? ⟨w.heap.size, 1, none⟩ = some (.int .i64 k.2) := Lib.cell_of_heap hbx2 1
    clear c0' c1' f0' hb1 hrow1 hown hrow hgrow k0' k1' hbx
    have hnm : n < maxLen := by have := B1.out; omega
    have hup := Classical.axiomOfChoice (fun q : Nat => (show (w2.drewN q).ownsMap Try.prog 25 (plainElem Try.prog 3) bm n D from hown2).update law Try.underlying55 hnm (hkey hk) (plainElem_int Try.underlying3 (a := (zs.length : Int) + 1) (q := .i64) (by have := B1.out; unfold maxLen at this; exact WalkArith.wf_i64 (by omega))))
    obtain ⟨F, hF⟩ := hup
    have hr1 : (Instr.mapUpdate 55 (.map (some bm)) (.agg #[.int .i64 k.1, .int .i64 k.2]) (.int .i64 ((zs.length : Int) + 1))).run Try.prog w2.drew = .ok () (F 1) := (hF 1).1
    have ho3 : (F 1).ownsMap Try.prog 25 (plainElem Try.prog 3) bm (n + 1) (D.put (lit k) (.lit (.int .i64 ((zs.length : Int) + 1)))) := (hF 1).2.1
    have hg3 : (w2.drewN 1).grownBy (F 1) (some bm) := (hF 1).2.2
    clear hF
    generalize F 1 = w3 at *
    have t3 : Turn (Own x bm ao) w w3 := (t2.drewN 1).grown hg3 (fun j hj _ => by cases hj; exact .inr (.inl rfl))
    have s2 : Turn (fun j => j = bm) w2 w3 := ((Turn.refl _ w2).drewN 1).grown hg3 (fun j hj _ => by cases hj; rfl)
    have hlx2 : x < w2.heap.size := (Array.getElem?_eq_some_iff.1 hb2).1
    have hb3 : w3.heap[x]? = some (.cells #[.slice (some ⟨g, 0, none⟩) (zs.length + 1) cap', .map (some bm)] 57 (0, 0)) := (s2.block x hlx2 h.ne).trans hb2
    have hrow3 := s2.row hrow2 (fun g' hg' => by cases hg'; exact fun e => hmg e.symm)
    have k0 : w3.cell? ⟨x, 0, none⟩ = some (.slice (some ⟨g, 0, none⟩) (zs.length + 1) cap') := by rw [Lib.cell_of_heap hb3]; rfl
    have hfin : IxQ B x bm (some ⟨g, 0, none⟩) cap' (zs ++ [k]) w3 := by
      refine ⟨h.hx, h.hm, h.ne, ?_, ?_, ?_, n + 1, _, ?_, ho3, ?_⟩
      · rw [List.length_append]; exact hb3
      · rw [List.length_append, List.flatMap_append]; simpa [cells] using hrow3
      · intro z hz
        rcases List.mem_append.1 hz with q | q
        · exact h.oks z q
        · simp at q; rw [q]; exact hk
      · simp; omega
      · have := hh.put hown2.isMap hin hk (isKey hk) (fun j hj e => inj j k hj hk e)
        simpa using this
    clear hown2 hrow2 t2 hb2 ho3 hg3 s2 hb3 hrow3 hh hnot h hbx2 heq
    go_region
    go_wp2
    go_ret
    exact ⟨ret_int (by simp), g, cap', hfin, t3, hgo⟩
end Q
end Go.Proofs.Ytgjdpgmffhihnab
