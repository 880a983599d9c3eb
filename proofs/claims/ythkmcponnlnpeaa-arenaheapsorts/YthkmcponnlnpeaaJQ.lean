import Derived.Test.YthkmcponnlnpeaaHpM
import Derived.BigQuiet
import Derived.BigRegion
import Derived.LoopTactic
import Derived.Deep.QuietTactic
import Derived.Deep.RegionHeld3
set_option linter.unusedVariables false
set_option linter.unusedSimpArgs false
namespace Go.Proofs.Ythkmcponnlnpeaa
open Go.RowKit Go.Sort
namespace HQ
open Hp
def ic (z : (Int × Int) × Nat) : List Value := [.int .i64 z.1.1, .int .i64 z.1.2, .int .i64 (z.2 : Nat)]
theorem ic_len (z : (Int × Int) × Nat) : (ic z).length = 3 := rfl
/-- BLOCK h IS A HEAP: its things with their turns lie in a row of their own -/
structure Hm (B h : Nat) (fv : Value) (ao : Option Addr) (cap : Nat) (zs : List ((Int × Int) × Nat)) (cnt : Nat) (w : World) : Prop where
  hh : w.heap[h]? = some (.cells #[fv, .slice ao zs.length cap, .int .i64 (cnt : Nat)] 123 (0, 0))
  row : w.ownsRow B 128 3 (.slice ao zs.length cap) zs.length (zs.flatMap ic)
  lo : B ≤ h
variable {B h : Nat} {fv : Value} {ao : Option Addr} {cap : Nat} {zs : List ((Int × Int) × Nat)} {cnt : Nat} {w w' : World}
theorem Hm.lt (H : Hm B h fv ao cap zs cnt w) : h < w.heap.size := lt_of_heap H.hh
theorem Hm.at (H : Hm B h fv ao cap zs cnt w) {j : Nat} (hj : M.At ao j) : j ≠ h ∧ B ≤ j ∧ j < w.heap.size := by
  obtain ⟨a, rfl, rfl⟩ := hj
  rcases H.row.2 with ⟨hv, _⟩ | ⟨g', cap', cur, hv, hb, hg', _⟩
  · cases hv
  · simp only [Value.slice.injEq, Option.some.injEq] at hv
    obtain ⟨rfl, _, _⟩ := hv
    exact ⟨cells_ne hg' H.hh (by decide), hb, lt_of_heap hg'⟩
theorem Hm.c0 (H : Hm B h fv ao cap zs cnt w) : w.cell? ⟨h, 0, none⟩ = some fv := by rw [Lib.cell_of_heap H.hh]; rfl
theorem Hm.c1 (H : Hm B h fv ao cap zs cnt w) : w.cell? ⟨h, 1, none⟩ = some (.slice ao zs.length cap) := by rw [Lib.cell_of_heap H.hh]; rfl
theorem Hm.c2 (H : Hm B h fv ao cap zs cnt w) : w.cell? ⟨h, 2, none⟩ = some (.int .i64 (cnt : Nat)) := by rw [Lib.cell_of_heap H.hh]; rfl
theorem Hm.fx (H : Hm B h fv ao cap zs cnt w) (j : Nat) : w.frozen? ⟨h, j, none⟩ = false := Lib.frozen_of_heap H.hh j
def Own (h : Nat) (ao : Option Addr) (j : Nat) : Prop := j = h ∨ M.At ao j
theorem Hm.own (H : Hm B h fv ao cap zs cnt w) {j : Nat} (hj : Own h ao j) : B ≤ j ∧ j < w.heap.size := by
  rcases hj with rfl | hj
  · exact ⟨H.lo, H.lt⟩
  · exact (H.at hj).2
theorem Hm.kept {S : Nat → Prop} (H : Hm B h fv ao cap zs cnt w) (t : Turn S w w') (hn : ∀ j, Own h ao j → ¬ S j) : Hm B h fv ao cap zs cnt w' :=
  ⟨(t.block h H.lt (hn h (.inl rfl))).trans H.hh, t.row H.row (fun j hj => hn j (.inr (M.own_at hj))), H.lo⟩
theorem Hm.some (H : Hm B h fv ao cap zs cnt w) (hl : 0 < zs.length) : ∃ g, ao = some ⟨g, 0, none⟩ ∧ zs.length ≤ cap ∧ g < w.heap.size ∧ g ≠ h := by
  obtain ⟨g, cap', hv, h2, h3⟩ := H.row.form hl
  simp only [Value.slice.injEq] at hv
  obtain ⟨rfl, _, rfl⟩ := hv
  have := H.at (j := g) ⟨_, rfl, rfl⟩
  refine ⟨g, rfl, ?_, this.2.2, this.1⟩
  rcases H.row.2 with ⟨hv, _⟩ | ⟨g', cap', cur, hv, hb, hg', hc, _⟩
  · cases hv
  · simp only [Value.slice.injEq] at hv
    obtain ⟨_, _, rfl⟩ := hv
    exact hc
/-- the cells of a thing -/
theorem Hm.item {g : Nat} (H : Hm B h fv (Option.some ⟨g, 0, none⟩) cap zs cnt w) {i : Nat} {z : (Int × Int) × Nat} (hz : zs[i]? = Option.some z) : w.cell? ⟨g, i * 3, none⟩ = Option.some (.int .i64 z.1.1) ∧ w.cell? ⟨g, i * 3 + 1, none⟩ = Option.some (.int .i64 z.1.2) ∧ w.cell? ⟨g, i * 3 + 2, none⟩ = Option.some (.int .i64 (z.2 : Nat)) := by
  have hi : i < zs.length := (List.getElem?_eq_some_iff.1 hz).1
  have e : ∀ r, r < 3 → w.cell? ⟨g, i * 3 + r, none⟩ = (ic z)[r]? := fun r hr => by
    rw [H.row.cellAt (i * 3 + r) (by omega)]
    exact flat_at ic_len zs i z r hz hr
  exact ⟨e 0 (by omega), e 1 (by omega), e 2 (by omega)⟩
theorem Hm.fr {g : Nat} (H : Hm B h fv (Option.some ⟨g, 0, none⟩) cap zs cnt w) (j : Nat) : w.frozen? ⟨g, j, none⟩ = false := H.row.frozenAt j
/-- a thing written over -/
theorem Hm.put {g : Nat} (H : Hm B h fv (Option.some ⟨g, 0, none⟩) cap zs cnt w) (i : Nat) (z : (Int × Int) × Nat) (hi : i < zs.length) : Hm B h fv (Option.some ⟨g, 0, none⟩) cap (zs.set i z) cnt (stc w g (i * 3) (ic z)) ∧ Turn (Own h (Option.some ⟨g, 0, none⟩)) w (stc w g (i * 3) (ic z)) := by
  obtain ⟨h1, t1⟩ := stc_row (ic z) _ (i * 3) w H.row
  have hne : h ≠ g := fun e => (H.at (j := g) ⟨_, rfl, rfl⟩).1 e.symm
  refine ⟨⟨?_, ?_, H.lo⟩, t1.mono (fun j _ e => .inr ⟨_, rfl, e⟩)⟩
  · rw [List.length_set]; exact (stc_heap (ic z) _ _ hne).trans H.hh
  · rw [List.length_set, ← flat_put ic_len zs i z hi]; exact h1
theorem swap_put {g : Nat} (H : Hm B h fv (Option.some ⟨g, 0, none⟩) cap zs cnt w) {i j : Nat} {x y : (Int × Int) × Nat} (hi : zs[i]? = Option.some x) (hj : zs[j]? = Option.some y) : Hm B h fv (Option.some ⟨g, 0, none⟩) cap (swp zs i j) cnt (stc (stc w g (i * 3) (ic y)) g (j * 3) (ic x)) ∧ Turn (Own h (Option.some ⟨g, 0, none⟩)) w (stc (stc w g (i * 3) (ic y)) g (j * 3) (ic x)) := by
  have li : i < zs.length := (List.getElem?_eq_some_iff.1 hi).1
  have lj : j < zs.length := (List.getElem?_eq_some_iff.1 hj).1
  obtain ⟨h1, t1⟩ := H.put i y li
  obtain ⟨h2, t2⟩ := h1.put j x (by simpa using lj)
  rw [swp_some hi hj]
  exact ⟨h2, t1.trans t2⟩
set_option maxRecDepth 100000 in
set_option maxHeartbeats 4000000 in
theorem swap_any (i j : Nat) (x y : (Int × Int) × Nat) (H : Hm B h fv ao cap zs cnt w) (hi : zs[i]? = Option.some x) (hj : zs[j]? = Option.some y) :
    Calls Try.prog 69 #[.pointer (Option.some ⟨h, 0, none⟩), .int .i64 (i : Nat), .int .i64 (j : Nat)] w fun e w' => e = .returned (.tuple #[]) ∧ Hm B h fv ao cap (swp zs i j) cnt w' ∧ Turn (Own h ao) w w' := by
  have li : i < zs.length := (List.getElem?_eq_some_iff.1 hi).1
  have lj : j < zs.length := (List.getElem?_eq_some_iff.1 hj).1
  obtain ⟨g, rfl, hc, hg, hgh⟩ := H.some (by omega)
  have K := hide' (swap_put H hi hj)
  have c1 := H.c1
  have c1d := fun n => show (w.drewN n).cell? ⟨h, 1, none⟩ = _ from c1
  obtain ⟨x0, x1, x2⟩ := H.item hi
  obtain ⟨y0, y1, y2⟩ := H.item hj
  have fr := H.fr
  by_cases hij : i = j
  · subst hij
    rw [hi] at hj
    cases hj
    clear H hi c1d y0 y1 y2
    go_enter Try.func69, Try.ntmps69
    go_region
    go_end0
    exact ⟨rfl, K.out.1.kept (Turn.drew (Turn.refl (fun _ => False) _)) (fun _ _ q => q), K.out.2.drew⟩
  · clear H hi hj c1d
    go_enter Try.func69, Try.ntmps69
    go_region
    go_end0
    exact ⟨rfl, K.out.1.kept (Turn.drew (Turn.refl (fun _ => False) _)) (fun _ _ q => q), K.out.2.drew⟩
end HQ
end Go.Proofs.Ythkmcponnlnpeaa
set_option linter.unusedVariables false
set_option linter.unusedSimpArgs false
namespace Go.Proofs.Ythkmcponnlnpeaa
open Go.RowKit Go.Sort
namespace HQ
open Hp
/-- WHAT THE ORDER'S FUNCTION TELLS: K holds of the world, and stays while the blocks of A stay -/
structure Less (nf : Nat) (cb : Array Value) (lt : (Int × Int) → (Int × Int) → Bool) (A : Nat → Prop) (K : World → Prop) : Prop where
  enters : ∀ args w, (callFunc nf args).run Try.prog w = .ok (.enter nf args) w
  call : ∀ x y w, K w → Calls Try.prog nf (#[.agg #[.int .i64 x.1, .int .i64 x.2], .agg #[.int .i64 y.1, .int .i64 y.2]] ++ cb) w fun e w' => e = .returned (.bool (lt x y)) ∧ Below w.heap.size w w'
  stay : ∀ S w w', K w → Turn S w w' → (∀ j, A j → ¬ S j) → K w'
  old : ∀ w j, K w → A j → j < w.heap.size
variable {nf : Nat} {cb : Array Value} {lt : (Int × Int) → (Int × Int) → Bool} {A : Nat → Prop} {K : World → Prop}
theorem Less.below (N : Less nf cb lt A K) {w w' : World} (h : K w) (b : Below w.heap.size w w') : K w' := N.stay (fun _ => False) w w' h (turn_below b) (fun _ _ q => q)
variable {B h : Nat} {ao : Option Addr} {cap : Nat} {zs : List ((Int × Int) × Nat)} {cnt : Nat} {w w' : World}
set_option maxRecDepth 100000 in
set_option maxHeartbeats 4000000 in
theorem new_fst (w : World) (o2 : Obj) (cs : Array Value) {t : TypeId} (r : Nat) (v : Value) (hv : cs[r]? = Option.some v) : ((w.alloc (.cells cs t)).alloc o2).drew.cell? ⟨w.heap.size, r, none⟩ = Option.some v := by
  show ((w.alloc (.cells cs t)).alloc o2).cell? ⟨w.heap.size, r, none⟩ = _
  rw [World.cell?_of_block (Below.heap_alloc (w.alloc (.cells cs t)) o2 _ (by simp)), Lib.cell_of_heap (heap_alloc_new w _), hv]
theorem new_snd (w : World) (o1 : Obj) (cs : Array Value) {t : TypeId} (r : Nat) (v : Value) (hv : cs[r]? = Option.some v) : ((w.alloc o1).alloc (.cells cs t)).drew.cell? ⟨w.heap.size + 1, r, none⟩ = Option.some v := by
  show ((w.alloc o1).alloc (.cells cs t)).cell? ⟨w.heap.size + 1, r, none⟩ = _
  have := heap_alloc_new (w.alloc o1) (.cells cs t)
  rw [show (w.alloc o1).heap.size = w.heap.size + 1 by simp] at this
  rw [Lib.cell_of_heap this, hv]
theorem new_lt1 (w : World) (o1 o2 : Obj) : w.heap.size < ((w.alloc o1).alloc o2).drew.heap.size := by show w.heap.size < ((w.alloc o1).alloc o2).heap.size; simp; omega
theorem new_lt2 (w : World) (o1 o2 : Obj) : w.heap.size + 1 < ((w.alloc o1).alloc o2).drew.heap.size := by show w.heap.size + 1 < ((w.alloc o1).alloc o2).heap.size; simp
theorem bel2 (w : World) (o1 o2 : Obj) : Below w.heap.size w ((w.alloc o1).alloc o2).drew := (((Below.refl _ _).alloc (Nat.le_refl _) _).alloc (by simp) _).drew
set_option maxRecDepth 100000 in
set_option maxHeartbeats 4000000 in
theorem ahead_any (N : Less nf cb lt A K) (hK : K w) (i j : Nat) (x y : (Int × Int) × Nat) (H : Hm B h (.func (.func nf) #[] cb) ao cap zs cnt w) (hi : zs[i]? = Option.some x) (hj : zs[j]? = Option.some y) :
    Calls Try.prog 93 #[.pointer (Option.some ⟨h, 0, none⟩), .int .i64 (i : Nat), .int .i64 (j : Nat)] w fun e w' => e = .returned (.bool (ahd lt x y)) ∧ Below w.heap.size w w' := by
  have li : i < zs.length := (List.getElem?_eq_some_iff.1 hi).1
  have lj : j < zs.length := (List.getElem?_eq_some_iff.1 hj).1
  obtain ⟨g, rfl, hc, hg, hgh⟩ := H.some (by omega)
  have c0 := H.c0
  have c1 := H.c1
  have hlt := H.lt
  have hent := N.enters
  have HC := hide' (fun x y w1 (b : Below w.heap.size w w1) => N.call x y w1 (N.below hK b))
  obtain ⟨x0, x1, x2⟩ := H.item hi
  obtain ⟨y0, y1, y2⟩ := H.item hj
  have n0 := World.new_ne w _ c0
  have n1 := World.new_ne w _ c1
  have nx0 := World.new_ne w _ x0
  have nx1 := World.new_ne w _ x1
  have nx2 := World.new_ne w _ x2
  have ny0 := World.new_ne w _ y0
  have ny1 := World.new_ne w _ y1
  have ny2 := World.new_ne w _ y2
  clear H hi hj N hK
  unfold ahd
  by_cases ht : x.2 < y.2
  · rw [if_pos ht]
    go_enter Try.func93, Try.ntmps93
    go_wp2_with fail
    go_region
    all_goals go_wp2_with fail
    · have hW := bel2 w (.cells #[.int .i64 x.1.1, .int .i64 x.1.2, .int .i64 (x.2 : Nat)] 128) (.cells #[.int .i64 y.1.1, .int .i64 y.1.2, .int .i64 (y.2 : Nat)] 128)
      have s0 : ((w.alloc (.cells #[.int .i64 x.1.1, .int .i64 x.1.2, .int .i64 (x.2 : Nat)] 128)).alloc (.cells #[.int .i64 y.1.1, .int .i64 y.1.2, .int .i64 (y.2 : Nat)] 128)).drew.cell? ⟨h, 0, none⟩ = Option.some (.func (.func nf) #[] cb) := (hW.cell (p := ⟨h, 0, none⟩) hlt).trans c0
      have s1 : ((w.alloc (.cells #[.int .i64 x.1.1, .int .i64 x.1.2, .int .i64 (x.2 : Nat)] 128)).alloc (.cells #[.int .i64 y.1.1, .int .i64 y.1.2, .int .i64 (y.2 : Nat)] 128)).drew.cell? ⟨w.heap.size, 0, none⟩ = Option.some (.int .i64 x.1.1) := new_fst w _ _ 0 _ rfl
      have s2 : ((w.alloc (.cells #[.int .i64 x.1.1, .int .i64 x.1.2, .int .i64 (x.2 : Nat)] 128)).alloc (.cells #[.int .i64 y.1.1, .int .i64 y.1.2, .int .i64 (y.2 : Nat)] 128)).drew.cell? ⟨w.heap.size, 1, none⟩ = Option.some (.int .i64 x.1.2) := new_fst w _ _ 1 _ rfl
      have s3 : ((w.alloc (.cells #[.int .i64 x.1.1, .int .i64 x.1.2, .int .i64 (x.2 : Nat)] 128)).alloc (.cells #[.int .i64 y.1.1, .int .i64 y.1.2, .int .i64 (y.2 : Nat)] 128)).drew.cell? ⟨w.heap.size + 1, 0, none⟩ = Option.some (.int .i64 y.1.1) := new_snd w _ _ 0 _ rfl
      have s4 : ((w.alloc (.cells #[.int .i64 x.1.1, .int .i64 x.1.2, .int .i64 (x.2 : Nat)] 128)).alloc (.cells #[.int .i64 y.1.1, .int .i64 y.1.2, .int .i64 (y.2 : Nat)] 128)).drew.cell? ⟨w.heap.size + 1, 1, none⟩ = Option.some (.int .i64 y.1.2) := new_snd w _ _ 1 _ rfl
      have l1 := new_lt1 w (.cells #[.int .i64 x.1.1, .int .i64 x.1.2, .int .i64 (x.2 : Nat)] 128) (.cells #[.int .i64 y.1.1, .int .i64 y.1.2, .int .i64 (y.2 : Nat)] 128)
      have l2 := new_lt2 w (.cells #[.int .i64 x.1.1, .int .i64 x.1.2, .int .i64 (x.2 : Nat)] 128) (.cells #[.int .i64 y.1.1, .int .i64 y.1.2, .int .i64 (y.2 : Nat)] 128)
      have l3 := Nat.lt_of_lt_of_le hlt hW.size
      have HWb := hide' hW
      generalize ((w.alloc (.cells #[.int .i64 x.1.1, .int .i64 x.1.2, .int .i64 (x.2 : Nat)] 128)).alloc (.cells #[.int .i64 y.1.1, .int .i64 y.1.2, .int .i64 (y.2 : Nat)] 128)).drew = W at *
      have HX := hide' (HC.out y.1 x.1)
      clear HC hW
      go_region_held3 (fun w' => w'.cell? ⟨h, 0, none⟩ = Option.some (.func (.func nf) #[] cb) ∧ w'.cell? ⟨w.heap.size, 0, none⟩ = Option.some (.int .i64 x.1.1) ∧ w'.cell? ⟨w.heap.size, 1, none⟩ = Option.some (.int .i64 x.1.2) ∧ w'.cell? ⟨w.heap.size + 1, 0, none⟩ = Option.some (.int .i64 y.1.1) ∧ w'.cell? ⟨w.heap.size + 1, 1, none⟩ = Option.some (.int .i64 y.1.2)) (first | go_keep | exact ⟨k0, k1, k2, k3, k4⟩) ((refine (HX.out W.drew HWb.out.drew).mono ?_; rintro e w2 ⟨rfl, b2⟩; have k0 := (b2.cell (p := ⟨h, 0, none⟩) l3).trans s0; have k1 := (b2.cell (p := ⟨w.heap.size, 0, none⟩) l1).trans s1; have k2 := (b2.cell (p := ⟨w.heap.size, 1, none⟩) l1).trans s2; have k3 := (b2.cell (p := ⟨w.heap.size + 1, 0, none⟩) l2).trans s3; have k4 := (b2.cell (p := ⟨w.heap.size + 1, 1, none⟩) l2).trans s4))
      have b3 := hide' (HWb.out.drew.trans (b2.mono HWb.out.size))
      clear b2 k0 k1 k2 k3 k4 s0 s1 s2 s3 s4
      go_wp2
      go_ret
      exact ⟨rfl, b3.out⟩
    · have hW := bel2 w (.cells #[.int .i64 y.1.1, .int .i64 y.1.2, .int .i64 (y.2 : Nat)] 128) (.cells #[.int .i64 x.1.1, .int .i64 x.1.2, .int .i64 (x.2 : Nat)] 128)
      have s0 : ((w.alloc (.cells #[.int .i64 y.1.1, .int .i64 y.1.2, .int .i64 (y.2 : Nat)] 128)).alloc (.cells #[.int .i64 x.1.1, .int .i64 x.1.2, .int .i64 (x.2 : Nat)] 128)).drew.cell? ⟨h, 0, none⟩ = Option.some (.func (.func nf) #[] cb) := (hW.cell (p := ⟨h, 0, none⟩) hlt).trans c0
      have s1 : ((w.alloc (.cells #[.int .i64 y.1.1, .int .i64 y.1.2, .int .i64 (y.2 : Nat)] 128)).alloc (.cells #[.int .i64 x.1.1, .int .i64 x.1.2, .int .i64 (x.2 : Nat)] 128)).drew.cell? ⟨w.heap.size + 1, 0, none⟩ = Option.some (.int .i64 x.1.1) := new_snd w _ _ 0 _ rfl
      have s2 : ((w.alloc (.cells #[.int .i64 y.1.1, .int .i64 y.1.2, .int .i64 (y.2 : Nat)] 128)).alloc (.cells #[.int .i64 x.1.1, .int .i64 x.1.2, .int .i64 (x.2 : Nat)] 128)).drew.cell? ⟨w.heap.size + 1, 1, none⟩ = Option.some (.int .i64 x.1.2) := new_snd w _ _ 1 _ rfl
      have s3 : ((w.alloc (.cells #[.int .i64 y.1.1, .int .i64 y.1.2, .int .i64 (y.2 : Nat)] 128)).alloc (.cells #[.int .i64 x.1.1, .int .i64 x.1.2, .int .i64 (x.2 : Nat)] 128)).drew.cell? ⟨w.heap.size, 0, none⟩ = Option.some (.int .i64 y.1.1) := new_fst w _ _ 0 _ rfl
      have s4 : ((w.alloc (.cells #[.int .i64 y.1.1, .int .i64 y.1.2, .int .i64 (y.2 : Nat)] 128)).alloc (.cells #[.int .i64 x.1.1, .int .i64 x.1.2, .int .i64 (x.2 : Nat)] 128)).drew.cell? ⟨w.heap.size, 1, none⟩ = Option.some (.int .i64 y.1.2) := new_fst w _ _ 1 _ rfl
      have l1 := new_lt1 w (.cells #[.int .i64 y.1.1, .int .i64 y.1.2, .int .i64 (y.2 : Nat)] 128) (.cells #[.int .i64 x.1.1, .int .i64 x.1.2, .int .i64 (x.2 : Nat)] 128)
      have l2 := new_lt2 w (.cells #[.int .i64 y.1.1, .int .i64 y.1.2, .int .i64 (y.2 : Nat)] 128) (.cells #[.int .i64 x.1.1, .int .i64 x.1.2, .int .i64 (x.2 : Nat)] 128)
      have l3 := Nat.lt_of_lt_of_le hlt hW.size
      have HWb := hide' hW
      generalize ((w.alloc (.cells #[.int .i64 y.1.1, .int .i64 y.1.2, .int .i64 (y.2 : Nat)] 128)).alloc (.cells #[.int .i64 x.1.1, .int .i64 x.1.2, .int .i64 (x.2 : Nat)] 128)).drew = W at *
      have HX := hide' (HC.out y.1 x.1)
      clear HC hW
      go_region_held3 (fun w' => w'.cell? ⟨h, 0, none⟩ = Option.some (.func (.func nf) #[] cb) ∧ w'.cell? ⟨w.heap.size + 1, 0, none⟩ = Option.some (.int .i64 x.1.1) ∧ w'.cell? ⟨w.heap.size + 1, 1, none⟩ = Option.some (.int .i64 x.1.2) ∧ w'.cell? ⟨w.heap.size, 0, none⟩ = Option.some (.int .i64 y.1.1) ∧ w'.cell? ⟨w.heap.size, 1, none⟩ = Option.some (.int .i64 y.1.2)) (first | go_keep | exact ⟨k0, k1, k2, k3, k4⟩) ((refine (HX.out W.drew HWb.out.drew).mono ?_; rintro e w2 ⟨rfl, b2⟩; have k0 := (b2.cell (p := ⟨h, 0, none⟩) l3).trans s0; have k1 := (b2.cell (p := ⟨w.heap.size + 1, 0, none⟩) l2).trans s1; have k2 := (b2.cell (p := ⟨w.heap.size + 1, 1, none⟩) l2).trans s2; have k3 := (b2.cell (p := ⟨w.heap.size, 0, none⟩) l1).trans s3; have k4 := (b2.cell (p := ⟨w.heap.size, 1, none⟩) l1).trans s4))
      have b3 := hide' (HWb.out.drew.trans (b2.mono HWb.out.size))
      clear b2 k0 k1 k2 k3 k4 s0 s1 s2 s3 s4
      go_wp2
      go_ret
      exact ⟨rfl, b3.out⟩
  · rw [if_neg ht]
    go_enter Try.func93, Try.ntmps93
    go_wp2_with fail
    go_region
    all_goals go_wp2_with fail
    · have hW := bel2 w (.cells #[.int .i64 x.1.1, .int .i64 x.1.2, .int .i64 (x.2 : Nat)] 128) (.cells #[.int .i64 y.1.1, .int .i64 y.1.2, .int .i64 (y.2 : Nat)] 128)
      have s0 : ((w.alloc (.cells #[.int .i64 x.1.1, .int .i64 x.1.2, .int .i64 (x.2 : Nat)] 128)).alloc (.cells #[.int .i64 y.1.1, .int .i64 y.1.2, .int .i64 (y.2 : Nat)] 128)).drew.cell? ⟨h, 0, none⟩ = Option.some (.func (.func nf) #[] cb) := (hW.cell (p := ⟨h, 0, none⟩) hlt).trans c0
      have s1 : ((w.alloc (.cells #[.int .i64 x.1.1, .int .i64 x.1.2, .int .i64 (x.2 : Nat)] 128)).alloc (.cells #[.int .i64 y.1.1, .int .i64 y.1.2, .int .i64 (y.2 : Nat)] 128)).drew.cell? ⟨w.heap.size, 0, none⟩ = Option.some (.int .i64 x.1.1) := new_fst w _ _ 0 _ rfl
      have s2 : ((w.alloc (.cells #[.int .i64 x.1.1, .int .i64 x.1.2, .int .i64 (x.2 : Nat)] 128)).alloc (.cells #[.int .i64 y.1.1, .int .i64 y.1.2, .int .i64 (y.2 : Nat)] 128)).drew.cell? ⟨w.heap.size, 1, none⟩ = Option.some (.int .i64 x.1.2) := new_fst w _ _ 1 _ rfl
      have s3 : ((w.alloc (.cells #[.int .i64 x.1.1, .int .i64 x.1.2, .int .i64 (x.2 : Nat)] 128)).alloc (.cells #[.int .i64 y.1.1, .int .i64 y.1.2, .int .i64 (y.2 : Nat)] 128)).drew.cell? ⟨w.heap.size + 1, 0, none⟩ = Option.some (.int .i64 y.1.1) := new_snd w _ _ 0 _ rfl
      have s4 : ((w.alloc (.cells #[.int .i64 x.1.1, .int .i64 x.1.2, .int .i64 (x.2 : Nat)] 128)).alloc (.cells #[.int .i64 y.1.1, .int .i64 y.1.2, .int .i64 (y.2 : Nat)] 128)).drew.cell? ⟨w.heap.size + 1, 1, none⟩ = Option.some (.int .i64 y.1.2) := new_snd w _ _ 1 _ rfl
      have l1 := new_lt1 w (.cells #[.int .i64 x.1.1, .int .i64 x.1.2, .int .i64 (x.2 : Nat)] 128) (.cells #[.int .i64 y.1.1, .int .i64 y.1.2, .int .i64 (y.2 : Nat)] 128)
      have l2 := new_lt2 w (.cells #[.int .i64 x.1.1, .int .i64 x.1.2, .int .i64 (x.2 : Nat)] 128) (.cells #[.int .i64 y.1.1, .int .i64 y.1.2, .int .i64 (y.2 : Nat)] 128)
      have l3 := Nat.lt_of_lt_of_le hlt hW.size
      have HWb := hide' hW
      generalize ((w.alloc (.cells #[.int .i64 x.1.1, .int .i64 x.1.2, .int .i64 (x.2 : Nat)] 128)).alloc (.cells #[.int .i64 y.1.1, .int .i64 y.1.2, .int .i64 (y.2 : Nat)] 128)).drew = W at *
      have HX := hide' (HC.out x.1 y.1)
      clear HC hW
      go_region_held3 (fun w' => w'.cell? ⟨h, 0, none⟩ = Option.some (.func (.func nf) #[] cb) ∧ w'.cell? ⟨w.heap.size, 0, none⟩ = Option.some (.int .i64 x.1.1) ∧ w'.cell? ⟨w.heap.size, 1, none⟩ = Option.some (.int .i64 x.1.2) ∧ w'.cell? ⟨w.heap.size + 1, 0, none⟩ = Option.some (.int .i64 y.1.1) ∧ w'.cell? ⟨w.heap.size + 1, 1, none⟩ = Option.some (.int .i64 y.1.2)) (first | go_keep | exact ⟨k0, k1, k2, k3, k4⟩) ((refine (HX.out W.drew HWb.out.drew).mono ?_; rintro e w2 ⟨rfl, b2⟩; have k0 := (b2.cell (p := ⟨h, 0, none⟩) l3).trans s0; have k1 := (b2.cell (p := ⟨w.heap.size, 0, none⟩) l1).trans s1; have k2 := (b2.cell (p := ⟨w.heap.size, 1, none⟩) l1).trans s2; have k3 := (b2.cell (p := ⟨w.heap.size + 1, 0, none⟩) l2).trans s3; have k4 := (b2.cell (p := ⟨w.heap.size + 1, 1, none⟩) l2).trans s4))
      have b3 := hide' (HWb.out.drew.trans (b2.mono HWb.out.size))
      clear b2 k0 k1 k2 k3 k4 s0 s1 s2 s3 s4
      go_wp2
      go_ret
      exact ⟨rfl, b3.out⟩
    · have hW := bel2 w (.cells #[.int .i64 y.1.1, .int .i64 y.1.2, .int .i64 (y.2 : Nat)] 128) (.cells #[.int .i64 x.1.1, .int .i64 x.1.2, .int .i64 (x.2 : Nat)] 128)
      have s0 : ((w.alloc (.cells #[.int .i64 y.1.1, .int .i64 y.1.2, .int .i64 (y.2 : Nat)] 128)).alloc (.cells #[.int .i64 x.1.1, .int .i64 x.1.2, .int .i64 (x.2 : Nat)] 128)).drew.cell? ⟨h, 0, none⟩ = Option.some (.func (.func nf) #[] cb) := (hW.cell (p := ⟨h, 0, none⟩) hlt).trans c0
      have s1 : ((w.alloc (.cells #[.int .i64 y.1.1, .int .i64 y.1.2, .int .i64 (y.2 : Nat)] 128)).alloc (.cells #[.int .i64 x.1.1, .int .i64 x.1.2, .int .i64 (x.2 : Nat)] 128)).drew.cell? ⟨w.heap.size + 1, 0, none⟩ = Option.some (.int .i64 x.1.1) := new_snd w _ _ 0 _ rfl
      have s2 : ((w.alloc (.cells #[.int .i64 y.1.1, .int .i64 y.1.2, .int .i64 (y.2 : Nat)] 128)).alloc (.cells #[.int .i64 x.1.1, .int .i64 x.1.2, .int .i64 (x.2 : Nat)] 128)).drew.cell? ⟨w.heap.size + 1, 1, none⟩ = Option.some (.int .i64 x.1.2) := new_snd w _ _ 1 _ rfl
      have s3 : ((w.alloc (.cells #[.int .i64 y.1.1, .int .i64 y.1.2, .int .i64 (y.2 : Nat)] 128)).alloc (.cells #[.int .i64 x.1.1, .int .i64 x.1.2, .int .i64 (x.2 : Nat)] 128)).drew.cell? ⟨w.heap.size, 0, none⟩ = Option.some (.int .i64 y.1.1) := new_fst w _ _ 0 _ rfl
      have s4 : ((w.alloc (.cells #[.int .i64 y.1.1, .int .i64 y.1.2, .int .i64 (y.2 : Nat)] 128)).alloc (.cells #[.int .i64 x.1.1, .int .i64 x.1.2, .int .i64 (x.2 : Nat)] 128)).drew.cell? ⟨w.heap.size, 1, none⟩ = Option.some (.int .i64 y.1.2) := new_fst w _ _ 1 _ rfl
      have l1 := new_lt1 w (.cells #[.int .i64 y.1.1, .int .i64 y.1.2, .int .i64 (y.2 : Nat)] 128) (.cells #[.int .i64 x.1.1, .int .i64 x.1.2, .int .i64 (x.2 : Nat)] 128)
      have l2 := new_lt2 w (.cells #[.int .i64 y.1.1, .int .i64 y.1.2, .int .i64 (y.2 : Nat)] 128) (.cells #[.int .i64 x.1.1, .int .i64 x.1.2, .int .i64 (x.2 : Nat)] 128)
      have l3 := Nat.lt_of_lt_of_le hlt hW.size
      have HWb := hide' hW
      generalize ((w.alloc (.cells #[.int .i64 y.1.1, .int .i64 y.1.2, .int .i64 (y.2 : Nat)] 128)).alloc (.cells #[.int .i64 x.1.1, .int .i64 x.1.2, .int .i64 (x.2 : Nat)] 128)).drew = W at *
      have HX := hide' (HC.out x.1 y.1)
      clear HC hW
      go_region_held3 (fun w' => w'.cell? ⟨h, 0, none⟩ = Option.some (.func (.func nf) #[] cb) ∧ w'.cell? ⟨w.heap.size + 1, 0, none⟩ = Option.some (.int .i64 x.1.1) ∧ w'.cell? ⟨w.heap.size + 1, 1, none⟩ = Option.some (.int .i64 x.1.2) ∧ w'.cell? ⟨w.heap.size, 0, none⟩ = Option.some (.int .i64 y.1.1) ∧ w'.cell? ⟨w.heap.size, 1, none⟩ = Option.some (.int .i64 y.1.2)) (first | go_keep | exact ⟨k0, k1, k2, k3, k4⟩) ((refine (HX.out W.drew HWb.out.drew).mono ?_; rintro e w2 ⟨rfl, b2⟩; have k0 := (b2.cell (p := ⟨h, 0, none⟩) l3).trans s0; have k1 := (b2.cell (p := ⟨w.heap.size + 1, 0, none⟩) l2).trans s1; have k2 := (b2.cell (p := ⟨w.heap.size + 1, 1, none⟩) l2).trans s2; have k3 := (b2.cell (p := ⟨w.heap.size, 0, none⟩) l1).trans s3; have k4 := (b2.cell (p := ⟨w.heap.size, 1, none⟩) l1).trans s4))
      have b3 := hide' (HWb.out.drew.trans (b2.mono HWb.out.size))
      clear b2 k0 k1 k2 k3 k4 s0 s1 s2 s3 s4
      go_wp2
      go_ret
      exact ⟨rfl, b3.out⟩
end HQ
end Go.Proofs.Ythkmcponnlnpeaa
set_option linter.unusedVariables false
set_option linter.unusedSimpArgs false
namespace Go.Proofs.Ythkmcponnlnpeaa
open Go.RowKit Go.Sort
namespace HQ
open Hp
variable {nf : Nat} {cb : Array Value} {lt : (Int × Int) → (Int × Int) → Bool} {A : Nat → Prop} {K : World → Prop}
variable {B h : Nat} {ao : Option Addr} {cap : Nat} {zs : List ((Int × Int) × Nat)} {cnt : Nat} {w w' : World}
/-- what a sift leaves -/
structure Sift (lt : (Int × Int) → (Int × Int) → Bool) (B h : Nat) (fv : Value) (ao : Option Addr) (cap : Nat) (zs zs' : List ((Int × Int) × Nat)) (cnt : Nat) (w wx : World) : Prop where
  hm : Hm B h fv ao cap zs' cnt wx
  perm : zs'.Perm zs
  turn : Turn (Own h ao) w wx
theorem Less.own (N : Less nf cb lt A K) (hK : K w) (hA : ∀ j, A j → ¬ Own h ao j) (t : Turn (Own h ao) w w') : K w' := N.stay _ w w' hK t hA
theorem tdiv_par (k : Nat) (h : 0 < k) : ((k : Int) - 1).tdiv 2 = ((par k : Nat) : Int) := by
  rw [Int.tdiv_eq_ediv_of_nonneg (by omega)]
  unfold par
  omega
set_option maxRecDepth 100000 in
set_option maxHeartbeats 4000000 in
theorem rise_any (N : Less nf cb lt A K) (k : Nat) (H : Hm B h (.func (.func nf) #[] cb) ao cap zs cnt w) (hK : K w) (hA : ∀ j, A j → ¬ Own h ao j) (hk : k < zs.length) (hl : zs.length ≤ 1099511627776) :
    Calls Try.prog 64 #[.pointer (Option.some ⟨h, 0, none⟩), .int .i64 (k : Nat)] w fun e w' => e = .returned (.tuple #[]) ∧ ∃ zs', Sift lt B h (.func (.func nf) #[] cb) ao cap zs zs' cnt w w' ∧ (SWO lt → Rise (ahd lt) zs k → Heap (ahd lt) zs') := by
  have HN := hide' N
  have HK := hide' hK
  have HA := hide' hA
  have Hl := hide' hl
  have HH := hide' H
  have Hk := hide' hk
  clear N hK hA hl H hk
  go_enter Try.func64, Try.ntmps64
  go_wp2_with fail
  go_loopw [1] (fun i wx => ∃ (q : Nat) (us : List ((Int × Int) × Nat)), i = .int .i64 (q : Int) ∧ q < us.length ∧ Sift lt B h (.func (.func nf) #[] cb) ao cap zs us cnt w wx ∧ (SWO lt → Rise (ahd lt) zs k → Rise (ahd lt) us q)) (fun i _ => (intOf i).toNat)
  case atStart => exact ⟨k, zs, rfl, Hk.out, ⟨HH.out, .refl _, Turn.refl _ _⟩, fun _ r => r⟩
  case round =>
    obtain ⟨q, us, rfl, hq, hS, hR⟩ := hrel
    have hlen := hS.perm.length_eq
    by_cases h0 : q = 0
    · subst h0
      have K0 := hide' (And.intro hS hR)
      clear hS hR hlen hq
      go_wp2
      go_end0
      exact ⟨rfl, us, K0.out.1, fun s r => (K0.out.2 s r).top⟩
    · have hp : 0 < q := by omega
      have hpar : par q < q := by unfold par; omega
      have hu : us[q]? = Option.some us[q] := List.getElem?_eq_getElem hq
      have hv : us[par q]? = Option.some us[par q] := List.getElem?_eq_getElem (by omega)
      have hl' := Hl.out
      have HCa := hide' (ahead_any HN.out (HN.out.own HK.out HA.out hS.turn) q (par q) _ _ hS.hm hu hv)
      have e1 := tdiv_par q hp
      have e2 : wrap64 ((q : Int) - 1) = (q : Int) - 1 := by unfold wrap64; omega
      have e3 : wrap64 ((par q : Nat) : Int) = ((par q : Nat) : Int) := by unfold wrap64; omega
      have e4 : (0 : Int) < (q : Int) := by omega
      have Hq := hide' hq
      have HS := hide' hS
      have HR := hide' hR
      have Hpar := hide' hpar
      have Hhu := hide' hu
      have Hhv := hide' hv
      generalize hxq : us[q] = xq at *
      generalize hxp : us[par q] = xp at *
      clear hS hR hlen hq hpar hu hv hl' h0 hp hxq hxp
      cases hc : ahd lt xq xp
      · rw [hc] at HCa
        go_wp2_with fail
        refine HCa.out.mono ?_
        rintro e w2 ⟨rfl, b2⟩
        have K2 : Hid (Sift lt B h (.func (.func nf) #[] cb) ao cap zs us cnt w w2) := hide' ⟨HS.out.hm.kept (turn_below (S := fun _ => False) b2) (fun _ _ z => z), HS.out.perm, HS.out.turn.trans (turn_below b2)⟩
        clear b2 HCa
        go_wp2
        (try simp only [Exit.inBlock, Exit.then])
        refine bodyPost_ret (results_none rfl _ _ _) rfl ?_
        exact ⟨rfl, us, K2.out, fun s r => (HR.out s r).done (fun x y hx hy => by rw [Hhu.out] at hx; rw [Hhv.out] at hy; cases hx; cases hy; exact hc)⟩
      · rw [hc] at HCa
        go_wp2_with fail
        refine HCa.out.mono ?_
        rintro e w2 ⟨rfl, b2⟩
        have K2 : Hid (Sift lt B h (.func (.func nf) #[] cb) ao cap zs us cnt w w2) := hide' ⟨HS.out.hm.kept (turn_below (S := fun _ => False) b2) (fun _ _ z => z), HS.out.perm, HS.out.turn.trans (turn_below b2)⟩
        have HCs := hide' (swap_any q (par q) _ _ K2.out.hm Hhu.out Hhv.out)
        clear b2 HCa
        go_wp2_with fail
        refine HCs.out.mono ?_
        rintro e w3 ⟨rfl, h3, t3⟩
        have K3 : Hid (Sift lt B h (.func (.func nf) #[] cb) ao cap zs (swp us q (par q)) cnt w w3) := hide' ⟨h3, (swp_perm _ _ _).trans K2.out.perm, K2.out.turn.trans t3⟩
        clear h3 t3 HCs K2
        go_wp2
        exact ⟨⟨par q, swp us q (par q), rfl, by rw [swp_length]; have := Hq.out; have := Hpar.out; omega, K3.out, fun s r => (HR.out s r).step (swo_ahd s) (by omega) Hq.out Hhu.out Hhv.out hc⟩, by have := Hpar.out; show (par q : Int).toNat < (q : Int).toNat; omega⟩
end HQ
end Go.Proofs.Ythkmcponnlnpeaa
