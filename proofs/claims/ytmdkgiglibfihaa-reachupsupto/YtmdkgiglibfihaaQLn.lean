import Derived.Test.YtmdkgiglibfihaaClL
import Derived.ProofKit
import Derived.Deep.RegionLaw
set_option linter.unusedVariables false
set_option linter.unusedSimpArgs false
namespace Go.Proofs.Ytmdkgiglibfihaa
open Go.RowKit Go.Maps
namespace Q
theorem zeroE (w : World) : (zeroValue 129).run Try.prog w = .ok (.agg #[]) w := by kernel_rfl
theorem laidOutQ : laidOutB Try.prog = true := by kernel_rfl
theorem cells31 : Try.prog.cellsOf 31 = 2 := by kernel_rfl
theorem cells9 : Try.prog.cellsOf 9 = 1 := by kernel_rfl
theorem row31 : 31 < Try.prog.types.size := of_decide_eq_true (by kernel_rfl)
theorem wide31 : (match Try.prog.underlying 31 with | some (.array _ _) | some (.struct _) => true | _ => false) = true := by rw [Try.underlying31]
theorem deep31 : Try.prog.keyTypeAt (Try.prog.types.size + 1) 31 = true := by kernel_rfl
theorem formed31 {c0 c1 : Value} : (Value.agg #[c0, c1]).formed Try.prog 31 = true := by simp [Value.formed, Try.underlying31, cells31]
set_option maxRecDepth 100000 in
theorem law : Keyed Try.prog 31 := Keyed.of_law (deep_law_laid laidOutQ (m := 2) (by omega) row31 (by kernel_rfl) wide31)
abbrev K2 := ByteArray × ByteArray
def okk (k : K2) : Prop := k.1.size ≤ maxLen ∧ k.2.size ≤ maxLen
def lit (k : K2) : Lit := (DataW.agg [.lit (.string k.1.data.toList), .lit (.string k.2.data.toList)] : DataW Unit).asKey
def cells (k : K2) : List Value := [.string k.1, .string k.2]
set_option maxRecDepth 100000 in
theorem hkey {k : K2} (h : okk k) : keyOf Try.prog 31 (.agg #[.string k.1, .string k.2]) = some (lit k) := by
  have hd : DataW.Trod (fun _ : TypeId × Value => ()) Try.prog default 0 (fun _ => true) true 31 (.agg #[.string k.1, .string k.2]) (.agg [.lit (.string k.1.data.toList), .lit (.string k.2.data.toList)]) [] := by
    refine ⟨3, ?_⟩
    have hr : List.range 2 = [0, 1] := rfl
    simp [DataW.trod, Try.underlying31, Try.underlying9, h.1, h.2, Value.cells, cells31, cells9, hr]
  exact (keyOf_asKey deep31 wide31 formed31 hd).1
theorem inj (j k : K2) (hj : okk j) (hk : okk k) (h : lit j = lit k) : j = k := by
  have a := hkey hj
  rw [h] at a
  have := law.inj a (hkey hk)
  simp at this
  exact Prod.ext this.1 this.2
theorem isKey {k : K2} (h : okk k) : WideAt.IsKeyLit (lit k) := law.key (hkey h)
abbrev LnI (B x bm : Nat) (ao : Option Addr) (cap : Nat) (zs ms : List K2) (w : World) : Prop := Ln Try.prog 97 31 31 2 cells lit okk B x bm ao cap zs ms w
theorem has_put {D : DataW Unit} {ms : List K2} (h : ∀ k, okk k → Maps.has D (lit k) = isIn ms k) (hm : IsMap D) {k : K2} (hok : okk k) : ∀ j, okk j → Maps.has (D.put (lit k) (.agg [])) (lit j) = isIn (ms ++ [k]) j := by
  intro j hj
  by_cases e : j = k
  · subst e; rw [has_put_same hm (isKey hok)]; simp [isIn]
  · rw [has_put_other (fun q => e (inj j k hj hok q)), h j hj]; simp [isIn, e]
set_option maxRecDepth 100000 in
set_option maxHeartbeats 4000000 in
theorem catch_idle (p : Addr) (w : World) :
    CallsD Try.prog 95 #[.pointer (some p)] .returning w fun e u' w' => e = .returned (.tuple #[]) ∧ u' = .returning ∧ w' = w := by
  refine callsD_of_wpS Try.func95 rfl fun c₀ cs hu => ?_
  apply wpS_seq
  apply wpS_region
  simp [wpOpsS, go_sem, recoverD, hu, Try.ntmps95, Exit.thenS]
  refine wpS_of_wp ?_
  go_wp2
  cases c₀
  simp_all [bodyPostS, results, Try.results95]
/-- a look-up in the line's map -/
theorem look {w : World} {bm n : Nat} {D : DataW Unit} (hown : w.ownsMap Try.prog 31 unitElem bm n D) {k : K2} (hk : okk k) :
    (Instr.lookup 95 (.map (some bm)) (.agg #[.string k.1, .string k.2]) true).run Try.prog w = .ok (.tuple #[.agg #[], .bool (Maps.has D (lit k))]) w := by
  obtain ⟨v, ps, hrun, hv⟩ := hown.look_ok law Try.underlying95 (zeroE w) unitElem_mk (hkey hk)
  obtain ⟨rfl, _⟩ := unitElem_inv hv
  exact hrun
theorem two_new (w : World) (x y : Value) (t : TypeId) : ∀ j u, [x, y][j]? = some u → (w.alloc (.cells #[x, y] t)).cell? ((⟨w.heap.size, 0, none⟩ : Addr).add j) = some u := by
  intro j u hj
  have := World.news_of_block (heap_alloc_new w (.cells #[x, y] t)) j u (by simpa using hj)
  exact this
/-- the isNew's boxes -/
def W3 (w : World) (k : K2) : World := (((w.alloc (.cells #[.string k.1, .string k.2] 31)).alloc (.cells #[.bool false] 4)).alloc (.cells #[] 129)).drew
theorem W3_box (w : World) (k : K2) : (W3 w k).heap[w.heap.size + 1]? = some (.cells #[.bool false] 4 (0, 0)) := by
  have e : (w.alloc (.cells #[.string k.1, .string k.2] 31)).heap.size = w.heap.size + 1 := by simp
  have a := heap_alloc_new (w.alloc (.cells #[.string k.1, .string k.2] 31)) (.cells #[.bool false] 4)
  rw [e] at a
  exact (Below.heap_alloc ((w.alloc (.cells #[.string k.1, .string k.2] 31)).alloc (.cells #[.bool false] 4)) (.cells #[] 129) (w.heap.size + 1) (by simp)).trans a
theorem W3_below (w : World) (k : K2) : Below w.heap.size w (W3 w k) := ((((Below.refl _ _).alloc (Nat.le_refl _) _).alloc (by simp) _).alloc (by simp; omega) _).drew
theorem W3_size (w : World) (k : K2) : (W3 w k).heap.size = w.heap.size + 3 := by show ((((w.alloc _).alloc _).alloc _)).heap.size = _; simp
set_option maxRecDepth 100000 in
set_option maxHeartbeats 4000000 in
theorem isNew_old (B x bm : Nat) (ao : Option Addr) (cap : Nat) (zs ms : List K2) (k : K2) (w : World) (h : LnI B x bm ao cap zs ms w) (hk : okk k) (hin : k ∈ ms) :
    Calls Try.prog 76 #[.pointer (some ⟨x, 0, none⟩), .agg #[.string k.1, .string k.2]] w fun e w' => e = .returned (.bool false) ∧ Below w.heap.size w w' := by
  have hmf : ∀ (fn : Fn) (first cap : Array Value) (w : World), (Instr.makeFunc fn first cap).run Try.prog w = .ok (.func fn first cap) w := fun _ _ _ _ => rfl
  obtain ⟨n, D, hn, hown, hh⟩ := h.map
  have c1 := h.c1
  have hl := h.lt
  have h1' : Maps.has D (lit k) = true := by rw [hh k hk]; exact isIn_yes hin
  have hlk1 : ∀ (o p : Obj), (Instr.lookup 95 (.map (some bm)) (.agg #[.string k.1, .string k.2]) true).run Try.prog ((w.alloc o).alloc p).drew = .ok (.tuple #[.agg #[], .bool true]) ((w.alloc o).alloc p).drew := fun o p => by
    have := look (w := ((w.alloc o).alloc p).drew) (show (((w.alloc o).alloc p).drew).ownsMap Try.prog 31 unitElem bm n D from (hown.alloc (o := o)).alloc (o := p)) hk
    rw [h1'] at this
    exact this
  have hlk2 : ∀ (o p q : Obj), (Instr.lookup 95 (.map (some bm)) (.agg #[.string k.1, .string k.2]) true).run Try.prog (((w.alloc o).alloc p).alloc q).drew = .ok (.tuple #[.agg #[], .bool true]) (((w.alloc o).alloc p).alloc q).drew := fun o p q => by
    have := look (w := (((w.alloc o).alloc p).alloc q).drew) (show ((((w.alloc o).alloc p).alloc q).drew).ownsMap Try.prog 31 unitElem bm n D from ((hown.alloc (o := o)).alloc (o := p)).alloc (o := q)) hk
    rw [h1'] at this
    exact this
  have hne2 : x ≠ w.heap.size + 1 + 1 := by omega
  have c1a : ∀ (o p q : Obj), (((w.alloc o).alloc p).alloc q).cell? ⟨x, 1, none⟩ = some (.map (some bm)) := fun o p q => (World.cell?_of_block (w := w) ((Below.heap_alloc _ _ _ (by simp; omega)).trans ((Below.heap_alloc _ _ _ (by simp; omega)).trans (Below.heap_alloc _ _ _ hl)))).trans c1
  have k0a : ∀ (p q : Obj), (((w.alloc (.cells #[.string k.1, .string k.2] 31)).alloc p).alloc q).cell? ⟨w.heap.size, 0, none⟩ = some (.string k.1) := fun p q => by
    rw [Lib.cell_of_heap ((Below.heap_alloc _ _ _ (by simp; omega)).trans ((Below.heap_alloc _ _ _ (by simp)).trans (heap_alloc_new w (.cells #[.string k.1, .string k.2] 31))))]; rfl
  have k1a : ∀ (p q : Obj), (((w.alloc (.cells #[.string k.1, .string k.2] 31)).alloc p).alloc q).cell? ⟨w.heap.size, 1, none⟩ = some (.string k.2) := fun p q => by
    rw [Lib.cell_of_heap ((Below.heap_alloc _ _ _ (by simp; omega)).trans ((Below.heap_alloc _ _ _ (by simp)).trans (heap_alloc_new w (.cells #[.string k.1, .string k.2] 31))))]; rfl
  have hne : x ≠ w.heap.size := by omega
  have hne1 : x ≠ w.heap.size + 1 := by omega
  clear hh hn hown h1'
  go_enter_defers Try.func76, Try.ntmps76
  go_wp2
  go_region
  clear c1a k0a k1a hlk1 hlk2
  have hB3 := W3_box w k
  have hbel := W3_below w k
  have hW3 : (((w.alloc (.cells #[.string k.1, .string k.2] 31)).alloc (.cells #[.bool false] 4)).alloc (.cells #[] 129)).drew = W3 w k := rfl
  rw [hW3]
  clear hW3
  generalize W3 w k = W at *
  have cb : W.cell? ⟨w.heap.size + 1, 0, none⟩ = some (.bool false) := by rw [Lib.cell_of_heap hB3]; rfl
  have fb : W.frozen? ⟨w.heap.size + 1, 0, none⟩ = false := Lib.frozen_of_heap hB3 0
  clear hB3
  go_wp2
  refine leaves_cons (f := 95) (args := #[.pointer (some ⟨w.heap.size + 1, 0, none⟩)]) (by simp) (by simp [go_sem]) ?_
  refine (catch_idle _ _).mono ?_
  rintro e u' w3 ⟨rfl, rfl, rfl⟩
  have cW : (W.setCell ⟨w.heap.size + 1, 0, none⟩ (.bool false)).cell? ⟨w.heap.size + 1, 0, none⟩ = some (.bool false) := World.cell?_setCell_same' _ _ _ (by rw [cb]; rfl)
  have bW : Below w.heap.size w (W.setCell ⟨w.heap.size + 1, 0, none⟩ (.bool false)) := hbel.setCell (by simp) _
  generalize W.setCell ⟨w.heap.size + 1, 0, none⟩ (.bool false) = W2 at *
  simp [Leaves, settle, results, Try.results76, go_sem, cW]
  exact bW
set_option maxRecDepth 100000 in
set_option maxHeartbeats 4000000 in
theorem isNew_new (B x bm : Nat) (ao : Option Addr) (cap : Nat) (zs ms : List K2) (k : K2) (w : World) (h : LnI B x bm ao cap zs ms w) (hk : okk k) (hin : k ∉ ms) (hm : (ms.length : Int) < 1152921504606846976) :
    Calls Try.prog 76 #[.pointer (some ⟨x, 0, none⟩), .agg #[.string k.1, .string k.2]] w fun e w' => e = .returned (.bool true) ∧ LnI B x bm ao cap zs (ms ++ [k]) w' ∧ Turn (fun j => j = bm) w w' := by
  have hmf : ∀ (fn : Fn) (first cap : Array Value) (w : World), (Instr.makeFunc fn first cap).run Try.prog w = .ok (.func fn first cap) w := fun _ _ _ _ => rfl
  obtain ⟨n, D, hn, hown, hh⟩ := h.map
  have c1 := h.c1
  have hl := h.lt
  have hlm := h.ltm
  have hap := hide' (h.apart (by decide))
  have h1' : Maps.has D (lit k) = false := by rw [hh k hk]; exact isIn_no hin
  have hlk1 : ∀ (o p : Obj), (Instr.lookup 95 (.map (some bm)) (.agg #[.string k.1, .string k.2]) true).run Try.prog ((w.alloc o).alloc p).drew = .ok (.tuple #[.agg #[], .bool false]) ((w.alloc o).alloc p).drew := fun o p => by
    have := look (w := ((w.alloc o).alloc p).drew) (show (((w.alloc o).alloc p).drew).ownsMap Try.prog 31 unitElem bm n D from (hown.alloc (o := o)).alloc (o := p)) hk
    rw [h1'] at this
    exact this
  have hlk2 : ∀ (o p q : Obj), (Instr.lookup 95 (.map (some bm)) (.agg #[.string k.1, .string k.2]) true).run Try.prog (((w.alloc o).alloc p).alloc q).drew = .ok (.tuple #[.agg #[], .bool false]) (((w.alloc o).alloc p).alloc q).drew := fun o p q => by
    have := look (w := (((w.alloc o).alloc p).alloc q).drew) (show ((((w.alloc o).alloc p).alloc q).drew).ownsMap Try.prog 31 unitElem bm n D from ((hown.alloc (o := o)).alloc (o := p)).alloc (o := q)) hk
    rw [h1'] at this
    exact this
  have hne2 : x ≠ w.heap.size + 1 + 1 := by omega
  have c1a : ∀ (o p q : Obj), (((w.alloc o).alloc p).alloc q).cell? ⟨x, 1, none⟩ = some (.map (some bm)) := fun o p q => (World.cell?_of_block (w := w) ((Below.heap_alloc _ _ _ (by simp; omega)).trans ((Below.heap_alloc _ _ _ (by simp; omega)).trans (Below.heap_alloc _ _ _ hl)))).trans c1
  have k0a : ∀ (p q : Obj), (((w.alloc (.cells #[.string k.1, .string k.2] 31)).alloc p).alloc q).cell? ⟨w.heap.size, 0, none⟩ = some (.string k.1) := fun p q => by
    rw [Lib.cell_of_heap ((Below.heap_alloc _ _ _ (by simp; omega)).trans ((Below.heap_alloc _ _ _ (by simp)).trans (heap_alloc_new w (.cells #[.string k.1, .string k.2] 31))))]; rfl
  have k1a : ∀ (p q : Obj), (((w.alloc (.cells #[.string k.1, .string k.2] 31)).alloc p).alloc q).cell? ⟨w.heap.size, 1, none⟩ = some (.string k.2) := fun p q => by
    rw [Lib.cell_of_heap ((Below.heap_alloc _ _ _ (by simp; omega)).trans ((Below.heap_alloc _ _ _ (by simp)).trans (heap_alloc_new w (.cells #[.string k.1, .string k.2] 31))))]; rfl
  have hne : x ≠ w.heap.size := by omega
  have hne1 : x ≠ w.heap.size + 1 := by omega
  have hnm : n < maxLen := by unfold maxLen; omega
  have hput := hide' (has_put hh hown.isMap hk)
  have hn' := hide' hn
  have H := hide' h
  have hown3 : (W3 w k).drew.ownsMap Try.prog 31 unitElem bm n D := ((hown.alloc (o := .cells #[.string k.1, .string k.2] 31)).alloc (o := .cells #[.bool false] 4)).alloc (o := .cells #[] 129)
  obtain ⟨w1, hrun, ho1, hg1⟩ := hown3.update law Try.underlying95 hnm (hkey hk) (unitElem_mk)
  have HO := hide' (And.intro ho1 hg1)
  have c3 : (W3 w k).cell? ⟨x, 1, none⟩ = some (.map (some bm)) := c1a _ _ _
  have k03 : (W3 w k).cell? ⟨w.heap.size, 0, none⟩ = some (.string k.1) := k0a _ _
  have k13 : (W3 w k).cell? ⟨w.heap.size, 1, none⟩ = some (.string k.2) := k1a _ _
  clear hh hn hown h1' h hin hm hown3 ho1 hg1 hnm
  go_enter_defers Try.func76, Try.ntmps76
  go_wp2
  go_region
  clear c1a k0a k1a hlk1 hlk2
  have hB3 := W3_box w k
  have hbel := hide' (W3_below w k)
  have hsz := W3_size w k
  have hW3 : (((w.alloc (.cells #[.string k.1, .string k.2] 31)).alloc (.cells #[.bool false] 4)).alloc (.cells #[] 129)).drew = W3 w k := rfl
  rw [hW3]
  clear hW3
  generalize W3 w k = W at *
  have cb : W.cell? ⟨w.heap.size + 1, 0, none⟩ = some (.bool false) := by rw [Lib.cell_of_heap hB3]; rfl
  have hb1 : w1.heap[w.heap.size + 1]? = some (.cells #[.bool false] 4 (0, 0)) := (HO.out.2.block _ (by show w.heap.size + 1 < W.heap.size; omega) (by simp; omega)).trans hB3
  have cb1 : w1.cell? ⟨w.heap.size + 1, 0, none⟩ = some (.bool false) := by rw [Lib.cell_of_heap hb1]; rfl
  have fb1 : w1.frozen? ⟨w.heap.size + 1, 0, none⟩ = false := Lib.frozen_of_heap hb1 0
  clear hB3 hb1
  go_wp2
  go_region
  go_wp2
  refine leaves_cons (f := 95) (args := #[.pointer (some ⟨w.heap.size + 1, 0, none⟩)]) (by simp) (by simp [go_sem]) ?_
  refine (catch_idle _ _).mono ?_
  rintro e u' w3 ⟨rfl, rfl, rfl⟩
  obtain ⟨ho1, hg1⟩ := HO.out
  have cW : (w1.setCell ⟨w.heap.size + 1, 0, none⟩ (.bool true)).cell? ⟨w.heap.size + 1, 0, none⟩ = some (.bool true) := World.cell?_setCell_same' _ _ _ (by rw [cb1]; rfl)
  have t1 : Turn (fun j => j = bm) w w1 := (turn_below (S := fun j => j = bm) hbel.out).drew.grown hg1 (fun j hj _ => by cases hj; rfl)
  have t2 : Turn (fun j => j = bm) w (w1.setCell ⟨w.heap.size + 1, 0, none⟩ (.bool true)) := t1.setCell (p := ⟨w.heap.size + 1, 0, none⟩) (fun q => by simp at q; omega) _
  have ho2 := ho1.setCell (a := ⟨w.heap.size + 1, 0, none⟩) (by simp; omega) (.bool true)
  have fin : LnI B x bm ao cap zs (ms ++ [k]) (w1.setCell ⟨w.heap.size + 1, 0, none⟩ (.bool true)) := by
    have h := H.out
    exact ⟨h.hx, h.hm, h.ne, (t2.block x hl h.ne).trans h.hb, t2.row h.row (fun g hg => by cases ao with | none => cases hg | some a => cases hg; exact (hap.out a rfl).2.1), h.oks, n + 1, _, by have := hn'.out; simp; omega, ho2, hput.out⟩
  clear ho1 hg1 ho2
  generalize w1.setCell ⟨w.heap.size + 1, 0, none⟩ (.bool true) = W2 at *
  simp [Leaves, settle, results, Try.results76, go_sem, cW]
  exact ⟨fin, t2⟩
end Q
end Go.Proofs.Ytmdkgiglibfihaa
