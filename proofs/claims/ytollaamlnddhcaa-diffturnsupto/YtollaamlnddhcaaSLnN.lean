import Derived.Test.YtollaamlnddhcaaSLn
set_option linter.unusedVariables false
set_option linter.unusedSimpArgs false
namespace Go.Proofs.Ytollaamlnddhcaa
open Go.RowKit Go.Maps
namespace S
set_option maxRecDepth 100000 in
set_option maxHeartbeats 4000000 in
theorem isNew_old (B x bm : Nat) (ao : Option Addr) (cap : Nat) (zs ms : List ByteArray) (k : ByteArray) (w : World) (h : LnI B x bm ao cap zs ms w) (hk : okk k) (hin : k ∈ ms) :
    Calls Try.prog 83 #[.pointer (some ⟨x, 0, none⟩), .string k] w fun e w' => e = .returned (.bool false) ∧ Below w.heap.size w w' := by
  have hmf : ∀ (fn : Fn) (first cap : Array Value) (w : World), (Instr.makeFunc fn first cap).run Try.prog w = .ok (.func fn first cap) w := fun _ _ _ _ => rfl
  obtain ⟨n, D, hn, hown, hh⟩ := h.map
  have c1 := h.c1
  have hl := h.lt
  have h1' : Maps.has D (lit k) = true := by rw [hh k hk]; exact isIn_yes hin
  have hown1 := fun o => hown.alloc (o := o)
  have hne : x ≠ w.heap.size := by omega
  clear hh hn hown
  go_enter_defers Try.func83, Try.ntmps83
  go_wp2_with (at_lookup; refine wpList_lookup_own_unit _ rfl _ _ 95 rfl 9 114 law Try.underlying95 (zeroE _) bm n D rfl (hown1 _) _ _ rfl (hkey hk) ?_; rw [h1'])
  refine leaves_cons (f := 84) (args := #[.pointer (some ⟨w.heap.size, 0, none⟩)]) (by simp) (by simp [go_sem]) ?_
  refine (catch_idle _ _).mono ?_
  rintro e u' w3 ⟨rfl, rfl, rfl⟩
  have cW := box_cell w (.bool false) 4 (.cells #[] 114)
  have fin : Below w.heap.size w ((w.alloc (.cells #[.bool false] 4)).alloc (.cells #[] 114)) := ((Below.refl _ _).alloc (Nat.le_refl _) _).alloc (by simp) _
  generalize (w.alloc (.cells #[.bool false] 4)).alloc (.cells #[] 114) = W at *
  simp [Leaves, settle, results, Try.results83, go_sem, cW]
  exact fin
set_option maxRecDepth 100000 in
set_option maxHeartbeats 4000000 in
theorem isNew_new (B x bm : Nat) (ao : Option Addr) (cap : Nat) (zs ms : List ByteArray) (k : ByteArray) (w : World) (h : LnI B x bm ao cap zs ms w) (hk : okk k) (hin : k ∉ ms) (hm : (ms.length : Int) < 1152921504606846976) :
    Calls Try.prog 83 #[.pointer (some ⟨x, 0, none⟩), .string k] w fun e w' => e = .returned (.bool true) ∧ LnI B x bm ao cap zs (ms ++ [k]) w' ∧ Turn (fun j => j = bm) w w' := by
  have hmf : ∀ (fn : Fn) (first cap : Array Value) (w : World), (Instr.makeFunc fn first cap).run Try.prog w = .ok (.func fn first cap) w := fun _ _ _ _ => rfl
  obtain ⟨n, D, hn, hown, hh⟩ := h.map
  have c1 := h.c1
  have hl := h.lt
  have hlm := h.ltm
  have hap := hide' (h.apart (by decide))
  have h1' : Maps.has D (lit k) = false := by rw [hh k hk]; exact isIn_no hin
  have hown1 := fun o => hown.alloc (o := o)
  have hown2 := fun o p => (hown1 o).alloc (o := p)
  have hne : x ≠ w.heap.size := by omega
  have hmr : some w.heap.size ≠ some bm := by simp; omega
  have hnm : Hid (n < maxLen) := by show n < maxLen; unfold maxLen; omega
  have hput := hide' (has_put hh hown.isMap hk)
  have hn' := hide' hn
  have H := hide' h
  clear hh hn hown h hin hm
  go_enter_defers Try.func83, Try.ntmps83
  go_wp2_with (first | (at_lookup; refine wpList_lookup_own_unit _ rfl _ _ 95 rfl 9 114 law Try.underlying95 (zeroE _) bm n D rfl (hown1 _) _ _ rfl (hkey hk) ?_; rw [h1']) | (at_mapUpdate; refine wpList_mapUpdate_own _ rfl _ _ _ 95 rfl 9 114 law Try.underlying95 unitElem bm n D rfl (hown2 _ _) hnm.out _ _ _ rfl rfl (hkey hk) _ _ unitElem_mk ?_; intro w1 ho1 hg1; have t1 := hide' (And.intro ho1 hg1); obtain ⟨c0', f0'⟩ := box_kept hg1 hmr; clear ho1 hg1))
  refine leaves_cons (f := 84) (args := #[.pointer (some ⟨w.heap.size, 0, none⟩)]) (by simp) (by simp [go_sem]) ?_
  refine (catch_idle _ _).mono ?_
  rintro e u' w3 ⟨rfl, rfl, rfl⟩
  obtain ⟨ho1, hg1⟩ := t1.out
  have cW : (w1.setCell ⟨w.heap.size, 0, none⟩ (.bool true)).cell? ⟨w.heap.size, 0, none⟩ = some (.bool true) := World.cell?_setCell_same' _ _ _ (by rw [c0']; rfl)
  have t2 : Turn (fun j => j = bm) w (w1.setCell ⟨w.heap.size, 0, none⟩ (.bool true)) := ((((Turn.refl _ w).alloc _).alloc _).grown hg1 (fun j hj _ => by cases hj; rfl)).setCell (p := ⟨w.heap.size, 0, none⟩) (fun q => by simp at q) _
  have ho2 := ho1.setCell (a := ⟨w.heap.size, 0, none⟩) (by simp; omega) (.bool true)
  have fin : LnI B x bm ao cap zs (ms ++ [k]) (w1.setCell ⟨w.heap.size, 0, none⟩ (.bool true)) := by
    have h := H.out
    exact ⟨h.hx, h.hm, h.ne, (t2.block x hl h.ne).trans h.hb, t2.row h.row (fun g hg => by cases ao with | none => cases hg | some a => cases hg; exact (hap.out a rfl).2.1), h.oks, n + 1, _, by have := hn'.out; simp; omega, ho2, hput.out⟩
  clear ho1 hg1 ho2
  generalize w1.setCell ⟨w.heap.size, 0, none⟩ (.bool true) = W at *
  simp [Leaves, settle, results, Try.results83, go_sem, cW]
  exact ⟨fin, t2⟩
end S
end Go.Proofs.Ytollaamlnddhcaa
