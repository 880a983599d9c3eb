import Derived.Test.YthkmcponnlnpeaaHpM
import Derived.BigQuiet
import Derived.BigRegion
import Derived.LoopTactic
import Derived.Deep.QuietTactic
import Derived.Deep.RegionHeld3
import Derived.Test.YthkmcponnlnpeaaHpB
import Derived.Deep.RegionLaw
import Derived.Test.YthkmcponnlnpeaaHpR
set_option linter.unusedVariables false
set_option linter.unusedSimpArgs false
namespace Go.Proofs.Ythkmcponnlnpeaa
open Go.RowKit Go.Sort
namespace HQ
open Hp
def ic (z : (Int × Int) × Nat) : List Value := [.int .i64 z.1.1, .int .i64 z.1.2, .int .i64 (z.2 : Nat)]
theorem ic_len (z : (Int × Int) × Nat) : (ic z).length = 3 := rfl
/-- BLOCK h IS A HEAP: its things with their turns lie in a row of their own -/
structure Hm (B h : Nat) (fv : Value) (ao : Option Addr) (cap : Nat) (zs : List ((Int × Int) × Nat)) (cnt : Nat) (w : World) : Prop where
  hh : w.heap[h]? = some (.cells #[fv, .slice ao zs.length cap, .int .i64 (cnt : Nat)] 123 (0, 0))
  row : w.ownsRow B 128 3 (.slice ao zs.length cap) zs.length (zs.flatMap ic)
  lo : B ≤ h
variable {B h : Nat} {fv : Value} {ao : Option Addr} {cap : Nat} {zs : List ((Int × Int) × Nat)} {cnt : Nat} {w w' : World}
theorem Hm.lt (H : Hm B h fv ao cap zs cnt w) : h < w.heap.size := lt_of_heap H.hh
theorem Hm.at (H : Hm B h fv ao cap zs cnt w) {j : Nat} (hj : M.At ao j) : j ≠ h ∧ B ≤ j ∧ j < w.heap.size := by
  obtain ⟨a, rfl, rfl⟩ := hj
  rcases H.row.2 with ⟨hv, _⟩ | ⟨g', cap', cur, hv, hb, hg', _⟩
  · cases hv
  · simp only [Value.slice.injEq, Option.some.injEq] at hv
    obtain ⟨rfl, _, _⟩ := hv
    exact ⟨cells_ne hg' H.hh (by decide), hb, lt_of_heap hg'⟩
theorem Hm.c0 (H : Hm B h fv ao cap zs cnt w) : w.cell? ⟨h, 0, none⟩ = some fv := by rw [Lib.cell_of_heap H.hh]; rfl
theorem Hm.c1 (H : Hm B h fv ao cap zs cnt w) : w.cell? ⟨h, 1, none⟩ = some (.slice ao zs.length cap) := by rw [Lib.cell_of_heap H.hh]; rfl
theorem Hm.c2 (H : Hm B h fv ao cap zs cnt w) : w.cell? ⟨h, 2, none⟩ = some (.int .i64 (cnt : Nat)) := by rw [Lib.cell_of_heap H.hh]; rfl
theorem Hm.fx (H : Hm B h fv ao cap zs cnt w) (j : Nat) : w.frozen? ⟨h, j, none⟩ = false := Lib.frozen_of_heap H.hh j
def Own (h : Nat) (ao : Option Addr) (j : Nat) : Prop := j = h ∨ M.At ao j
theorem Hm.own (H : Hm B h fv ao cap zs cnt w) {j : Nat} (hj : Own h ao j) : B ≤ j ∧ j < w.heap.size := by
  rcases hj with rfl | hj
  · exact ⟨H.lo, H.lt⟩
  · exact (H.at hj).2
theorem Hm.kept {S : Nat → Prop} (H : Hm B h fv ao cap zs cnt w) (t : Turn S w w') (hn : ∀ j, Own h ao j → ¬ S j) : Hm B h fv ao cap zs cnt w' :=
  ⟨(t.block h H.lt (hn h (.inl rfl))).trans H.hh, t.row H.row (fun j hj => hn j (.inr (M.own_at hj))), H.lo⟩
theorem Hm.some (H : Hm B h fv ao cap zs cnt w) (hl : 0 < zs.length) : ∃ g, ao = some ⟨g, 0, none⟩ ∧ zs.length ≤ cap ∧ g < w.heap.size ∧ g ≠ h := by
  obtain ⟨g, cap', hv, h2, h3⟩ := H.row.form hl
  simp only [Value.slice.injEq] at hv
  obtain ⟨rfl, _, rfl⟩ := hv
  have := H.at (j := g) ⟨_, rfl, rfl⟩
  refine ⟨g, rfl, ?_, this.2.2, this.1⟩
  rcases H.row.2 with ⟨hv, _⟩ | ⟨g', cap', cur, hv, hb, hg', hc, _⟩
  · cases hv
  · simp only [Value.slice.injEq] at hv
    obtain ⟨_, _, rfl⟩ := hv
    exact hc
/-- the cells of a thing -/
theorem Hm.item {g : Nat} (H : Hm B h fv (Option.some ⟨g, 0, none⟩) cap zs cnt w) {i : Nat} {z : (Int × Int) × Nat} (hz : zs[i]? = Option.some z) : w.cell? ⟨g, i * 3, none⟩ = Option.some (.int .i64 z.1.1) ∧ w.cell? ⟨g, i * 3 + 1, none⟩ = Option.some (.int .i64 z.1.2) ∧ w.cell? ⟨g, i * 3 + 2, none⟩ = Option.some (.int .i64 (z.2 : Nat)) := by
  have hi : i < zs.length := (List.getElem?_eq_some_iff.1 hz).1
  have e : ∀ r, r < 3 → w.cell? ⟨g, i * 3 + r, none⟩ = (ic z)[r]? := fun r hr => by
    rw [H.row.cellAt (i * 3 + r) (by omega)]
    exact flat_at ic_len zs i z r hz hr
  exact ⟨e 0 (by omega), e 1 (by omega), e 2 (by omega)⟩
theorem Hm.fr {g : Nat} (H : Hm B h fv (Option.some ⟨g, 0, none⟩) cap zs cnt w) (j : Nat) : w.frozen? ⟨g, j, none⟩ = false := H.row.frozenAt j
/-- a thing written over -/
theorem Hm.put {g : Nat} (H : Hm B h fv (Option.some ⟨g, 0, none⟩) cap zs cnt w) (i : Nat) (z : (Int × Int) × Nat) (hi : i < zs.length) : Hm B h fv (Option.some ⟨g, 0, none⟩) cap (zs.set i z) cnt (stc w g (i * 3) (ic z)) ∧ Turn (Own h (Option.some ⟨g, 0, none⟩)) w (stc w g (i * 3) (ic z)) := by
  obtain ⟨h1, t1⟩ := stc_row (ic z) _ (i * 3) w H.row
  have hne : h ≠ g := fun e => (H.at (j := g) ⟨_, rfl, rfl⟩).1 e.symm
  refine ⟨⟨?_, ?_, H.lo⟩, t1.mono (fun j _ e => .inr ⟨_, rfl, e⟩)⟩
  · rw [List.length_set]; exact (stc_heap (ic z) _ _ hne).trans H.hh
  · rw [List.length_set, ← flat_put ic_len zs i z hi]; exact h1
theorem swap_put {g : Nat} (H : Hm B h fv (Option.some ⟨g, 0, none⟩) cap zs cnt w) {i j : Nat} {x y : (Int × Int) × Nat} (hi : zs[i]? = Option.some x) (hj : zs[j]? = Option.some y) : Hm B h fv (Option.some ⟨g, 0, none⟩) cap (swp zs i j) cnt (stc (stc w g (i * 3) (ic y)) g (j * 3) (ic x)) ∧ Turn (Own h (Option.some ⟨g, 0, none⟩)) w (stc (stc w g (i * 3) (ic y)) g (j * 3) (ic x)) := by
  have li : i < zs.length := (List.getElem?_eq_some_iff.1 hi).1
  have lj : j < zs.length := (List.getElem?_eq_some_iff.1 hj).1
  obtain ⟨h1, t1⟩ := H.put i y li
  obtain ⟨h2, t2⟩ := h1.put j x (by simpa using lj)
  rw [swp_some hi hj]
  exact ⟨h2, t1.trans t2⟩
set_option maxRecDepth 100000 in
set_option maxHeartbeats 4000000 in
theorem swap_any (i j : Nat) (x y : (Int × Int) × Nat) (H : Hm B h fv ao cap zs cnt w) (hi : zs[i]? = Option.some x) (hj : zs[j]? = Option.some y) :
    Calls Try.prog 69 #[.pointer (Option.some ⟨h, 0, none⟩), .int .i64 (i : Nat), .int .i64 (j : Nat)] w fun e w' => e = .returned (.tuple #[]) ∧ Hm B h fv ao cap (swp zs i j) cnt w' ∧ Turn (Own h ao) w w' := by
  have li : i < zs.length := (List.getElem?_eq_some_iff.1 hi).1
  have lj : j < zs.length := (List.getElem?_eq_some_iff.1 hj).1
  obtain ⟨g, rfl, hc, hg, hgh⟩ := H.some (by omega)
  have K := hide' (swap_put H hi hj)
  have c1 := H.c1
  have c1d := fun n => show (w.drewN n).cell? ⟨h, 1, none⟩ = _ from c1
  obtain ⟨x0, x1, x2⟩ := H.item hi
  obtain ⟨y0, y1, y2⟩ := H.item hj
  have fr := H.fr
  by_cases hij : i = j
  · subst hij
    rw [hi] at hj
    cases hj
    clear H hi c1d y0 y1 y2
    go_enter Try.func69, Try.ntmps69
    go_region
    go_end0
    exact ⟨rfl, K.out.1.kept (Turn.drew (Turn.refl (fun _ => False) _)) (fun _ _ q => q), K.out.2.drew⟩
  · clear H hi hj c1d
    go_enter Try.func69, Try.ntmps69
    go_region
    go_end0
    exact ⟨rfl, K.out.1.kept (Turn.drew (Turn.refl (fun _ => False) _)) (fun _ _ q => q), K.out.2.drew⟩
end HQ
end Go.Proofs.Ythkmcponnlnpeaa
set_option linter.unusedVariables false
set_option linter.unusedSimpArgs false
namespace Go.Proofs.Ythkmcponnlnpeaa
open Go.RowKit Go.Sort
namespace HQ
open Hp
/-- WHAT THE ORDER'S FUNCTION TELLS: K holds of the world, and stays while the blocks of A stay -/
structure Less (nf : Nat) (cb : Array Value) (lt : (Int × Int) → (Int × Int) → Bool) (A : Nat → Prop) (K : World → Prop) : Prop where
  enters : ∀ args w, (callFunc nf args).run Try.prog w = .ok (.enter nf args) w
  call : ∀ x y w, K w → Calls Try.prog nf (#[.agg #[.int .i64 x.1, .int .i64 x.2], .agg #[.int .i64 y.1, .int .i64 y.2]] ++ cb) w fun e w' => e = .returned (.bool (lt x y)) ∧ Below w.heap.size w w'
  stay : ∀ S w w', K w → Turn S w w' → (∀ j, A j → ¬ S j) → K w'
  old : ∀ w j, K w → A j → j < w.heap.size
variable {nf : Nat} {cb : Array Value} {lt : (Int × Int) → (Int × Int) → Bool} {A : Nat → Prop} {K : World → Prop}
theorem Less.below (N : Less nf cb lt A K) {w w' : World} (h : K w) (b : Below w.heap.size w w') : K w' := N.stay (fun _ => False) w w' h (turn_below b) (fun _ _ q => q)
variable {B h : Nat} {ao : Option Addr} {cap : Nat} {zs : List ((Int × Int) × Nat)} {cnt : Nat} {w w' : World}
set_option maxRecDepth 100000 in
set_option maxHeartbeats 4000000 in
theorem new_fst (w : World) (o2 : Obj) (cs : Array Value) {t : TypeId} (r : Nat) (v : Value) (hv : cs[r]? = Option.some v) : ((w.alloc (.cells cs t)).alloc o2).drew.cell? ⟨w.heap.size, r, none⟩ = Option.some v := by
  show ((w.alloc (.cells cs t)).alloc o2).cell? ⟨w.heap.size, r, none⟩ = _
  rw [World.cell?_of_block (Below.heap_alloc (w.alloc (.cells cs t)) o2 _ (by simp)), Lib.cell_of_heap (heap_alloc_new w _), hv]
theorem new_snd (w : World) (o1 : Obj) (cs : Array Value) {t : TypeId} (r : Nat) (v : Value) (hv : cs[r]? = Option.some v) : ((w.alloc o1).alloc (.cells cs t)).drew.cell? ⟨w.heap.size + 1, r, none⟩ = Option.some v := by
  show ((w.alloc o1).alloc (.cells cs t)).cell? ⟨w.heap.size + 1, r, none⟩ = _
  have := heap_alloc_new (w.alloc o1) (.cells cs t)
  rw [show (w.alloc o1).heap.size = w.heap.size + 1 by simp] at this
  rw [Lib.cell_of_heap this, hv]
theorem new_lt1 (w : World) (o1 o2 : Obj) : w.heap.size < ((w.alloc o1).alloc o2).drew.heap.size := by show w.heap.size < ((w.alloc o1).alloc o2).heap.size; simp; omega
theorem new_lt2 (w : World) (o1 o2 : Obj) : w.heap.size + 1 < ((w.alloc o1).alloc o2).drew.heap.size := by show w.heap.size + 1 < ((w.alloc o1).alloc o2).heap.size; simp
theorem bel2 (w : World) (o1 o2 : Obj) : Below w.heap.size w ((w.alloc o1).alloc o2).drew := (((Below.refl _ _).alloc (Nat.le_refl _) _).alloc (by simp) _).drew
set_option maxRecDepth 100000 in
set_option maxHeartbeats 4000000 in
theorem ahead_any (N : Less nf cb lt A K) (hK : K w) (i j : Nat) (x y : (Int × Int) × Nat) (H : Hm B h (.func (.func nf) #[] cb) ao cap zs cnt w) (hi : zs[i]? = Option.some x) (hj : zs[j]? = Option.some y) :
    Calls Try.prog 93 #[.pointer (Option.some ⟨h, 0, none⟩), .int .i64 (i : Nat), .int .i64 (j : Nat)] w fun e w' => e = .returned (.bool (ahd lt x y)) ∧ Below w.heap.size w w' := by
  have li : i < zs.length := (List.getElem?_eq_some_iff.1 hi).1
  have lj : j < zs.length := (List.getElem?_eq_some_iff.1 hj).1
  obtain ⟨g, rfl, hc, hg, hgh⟩ := H.some (by omega)
  have c0 := H.c0
  have c1 := H.c1
  have hlt := H.lt
  have hent := N.enters
  have HC := hide' (fun x y w1 (b : Below w.heap.size w w1) => N.call x y w1 (N.below hK b))
  obtain ⟨x0, x1, x2⟩ := H.item hi
  obtain ⟨y0, y1, y2⟩ := H.item hj
  have n0 := World.new_ne w _ c0
  have n1 := World.new_ne w _ c1
  have nx0 := World.new_ne w _ x0
  have nx1 := World.new_ne w _ x1
  have nx2 := World.new_ne w _ x2
  have ny0 := World.new_ne w _ y0
  have ny1 := World.new_ne w _ y1
  have ny2 := World.new_ne w _ y2
  clear H hi hj N hK
  unfold ahd
  by_cases ht : x.2 < y.2
  · rw [if_pos ht]
    go_enter Try.func93, Try.ntmps93
    go_wp2_with fail
    go_region
    all_goals go_wp2_with fail
    · have hW := bel2 w (.cells #[.int .i64 x.1.1, .int .i64 x.1.2, .int .i64 (x.2 : Nat)] 128) (.cells #[.int .i64 y.1.1, .int .i64 y.1.2, .int .i64 (y.2 : Nat)] 128)
      have s0 : ((w.alloc (.cells #[.int .i64 x.1.1, .int .i64 x.1.2, .int .i64 (x.2 : Nat)] 128)).alloc (.cells #[.int .i64 y.1.1, .int .i64 y.1.2, .int .i64 (y.2 : Nat)] 128)).drew.cell? ⟨h, 0, none⟩ = Option.some (.func (.func nf) #[] cb) := (hW.cell (p := ⟨h, 0, none⟩) hlt).trans c0
      have s1 : ((w.alloc (.cells #[.int .i64 x.1.1, .int .i64 x.1.2, .int .i64 (x.2 : Nat)] 128)).alloc (.cells #[.int .i64 y.1.1, .int .i64 y.1.2, .int .i64 (y.2 : Nat)] 128)).drew.cell? ⟨w.heap.size, 0, none⟩ = Option.some (.int .i64 x.1.1) := new_fst w _ _ 0 _ rfl
      have s2 : ((w.alloc (.cells #[.int .i64 x.1.1, .int .i64 x.1.2, .int .i64 (x.2 : Nat)] 128)).alloc (.cells #[.int .i64 y.1.1, .int .i64 y.1.2, .int .i64 (y.2 : Nat)] 128)).drew.cell? ⟨w.heap.size, 1, none⟩ = Option.some (.int .i64 x.1.2) := new_fst w _ _ 1 _ rfl
      have s3 : ((w.alloc (.cells #[.int .i64 x.1.1, .int .i64 x.1.2, .int .i64 (x.2 : Nat)] 128)).alloc (.cells #[.int .i64 y.1.1, .int .i64 y.1.2, .int .i64 (y.2 : Nat)] 128)).drew.cell? ⟨w.heap.size + 1, 0, none⟩ = Option.some (.int .i64 y.1.1) := new_snd w _ _ 0 _ rfl
      have s4 : ((w.alloc (.cells #[.int .i64 x.1.1, .int .i64 x.1.2, .int .i64 (x.2 : Nat)] 128)).alloc (.cells #[.int .i64 y.1.1, .int .i64 y.1.2, .int .i64 (y.2 : Nat)] 128)).drew.cell? ⟨w.heap.size + 1, 1, none⟩ = Option.some (.int .i64 y.1.2) := new_snd w _ _ 1 _ rfl
      have l1 := new_lt1 w (.cells #[.int .i64 x.1.1, .int .i64 x.1.2, .int .i64 (x.2 : Nat)] 128) (.cells #[.int .i64 y.1.1, .int .i64 y.1.2, .int .i64 (y.2 : Nat)] 128)
      have l2 := new_lt2 w (.cells #[.int .i64 x.1.1, .int .i64 x.1.2, .int .i64 (x.2 : Nat)] 128) (.cells #[.int .i64 y.1.1, .int .i64 y.1.2, .int .i64 (y.2 : Nat)] 128)
      have l3 := Nat.lt_of_lt_of_le hlt hW.size
      have HWb := hide' hW
      generalize ((w.alloc (.cells #[.int .i64 x.1.1, .int .i64 x.1.2, .int .i64 (x.2 : Nat)] 128)).alloc (.cells #[.int .i64 y.1.1, .int .i64 y.1.2, .int .i64 (y.2 : Nat)] 128)).drew = W at *
      have HX := hide' (HC.out y.1 x.1)
      clear HC hW
      go_region_held3 (fun w' => w'.cell? ⟨h, 0, none⟩ = Option.some (.func (.func nf) #[] cb) ∧ w'.cell? ⟨w.heap.size, 0, none⟩ = Option.some (.int .i64 x.1.1) ∧ w'.cell? ⟨w.heap.size, 1, none⟩ = Option.some (.int .i64 x.1.2) ∧ w'.cell? ⟨w.heap.size + 1, 0, none⟩ = Option.some (.int .i64 y.1.1) ∧ w'.cell? ⟨w.heap.size + 1, 1, none⟩ = Option.some (.int .i64 y.1.2)) (first | go_keep | exact ⟨k0, k1, k2, k3, k4⟩) ((refine (HX.out W.drew HWb.out.drew).mono ?_; rintro e w2 ⟨rfl, b2⟩; have k0 := (b2.cell (p := ⟨h, 0, none⟩) l3).trans s0; have k1 := (b2.cell (p := ⟨w.heap.size, 0, none⟩) l1).trans s1; have k2 := (b2.cell (p := ⟨w.heap.size, 1, none⟩) l1).trans s2; have k3 := (b2.cell (p := ⟨w.heap.size + 1, 0, none⟩) l2).trans s3; have k4 := (b2.cell (p := ⟨w.heap.size + 1, 1, none⟩) l2).trans s4))
      have b3 := hide' (HWb.out.drew.trans (b2.mono HWb.out.size))
      clear b2 k0 k1 k2 k3 k4 s0 s1 s2 s3 s4
      go_wp2
      go_ret
      exact ⟨rfl, b3.out⟩
    · have hW := bel2 w (.cells #[.int .i64 y.1.1, .int .i64 y.1.2, .int .i64 (y.2 : Nat)] 128) (.cells #[.int .i64 x.1.1, .int .i64 x.1.2, .int .i64 (x.2 : Nat)] 128)
      have s0 : ((w.alloc (.cells #[.int .i64 y.1.1, .int .i64 y.1.2, .int .i64 (y.2 : Nat)] 128)).alloc (.cells #[.int .i64 x.1.1, .int .i64 x.1.2, .int .i64 (x.2 : Nat)] 128)).drew.cell? ⟨h, 0, none⟩ = Option.some (.func (.func nf) #[] cb) := (hW.cell (p := ⟨h, 0, none⟩) hlt).trans c0
      have s1 : ((w.alloc (.cells #[.int .i64 y.1.1, .int .i64 y.1.2, .int .i64 (y.2 : Nat)] 128)).alloc (.cells #[.int .i64 x.1.1, .int .i64 x.1.2, .int .i64 (x.2 : Nat)] 128)).drew.cell? ⟨w.heap.size + 1, 0, none⟩ = Option.some (.int .i64 x.1.1) := new_snd w _ _ 0 _ rfl
      have s2 : ((w.alloc (.cells #[.int .i64 y.1.1, .int .i64 y.1.2, .int .i64 (y.2 : Nat)] 128)).alloc (.cells #[.int .i64 x.1.1, .int .i64 x.1.2, .int .i64 (x.2 : Nat)] 128)).drew.cell? ⟨w.heap.size + 1, 1, none⟩ = Option.some (.int .i64 x.1.2) := new_snd w _ _ 1 _ rfl
      have s3 : ((w.alloc (.cells #[.int .i64 y.1.1, .int .i64 y.1.2, .int .i64 (y.2 : Nat)] 128)).alloc (.cells #[.int .i64 x.1.1, .int .i64 x.1.2, .int .i64 (x.2 : Nat)] 128)).drew.cell? ⟨w.heap.size, 0, none⟩ = Option.some (.int .i64 y.1.1) := new_fst w _ _ 0 _ rfl
      have s4 : ((w.alloc (.cells #[.int .i64 y.1.1, .int .i64 y.1.2, .int .i64 (y.2 : Nat)] 128)).alloc (.cells #[.int .i64 x.1.1, .int .i64 x.1.2, .int .i64 (x.2 : Nat)] 128)).drew.cell? ⟨w.heap.size, 1, none⟩ = Option.some (.int .i64 y.1.2) := new_fst w _ _ 1 _ rfl
      have l1 := new_lt1 w (.cells #[.int .i64 y.1.1, .int .i64 y.1.2, .int .i64 (y.2 : Nat)] 128) (.cells #[.int .i64 x.1.1, .int .i64 x.1.2, .int .i64 (x.2 : Nat)] 128)
      have l2 := new_lt2 w (.cells #[.int .i64 y.1.1, .int .i64 y.1.2, .int .i64 (y.2 : Nat)] 128) (.cells #[.int .i64 x.1.1, .int .i64 x.1.2, .int .i64 (x.2 : Nat)] 128)
      have l3 := Nat.lt_of_lt_of_le hlt hW.size
      have HWb := hide' hW
      generalize ((w.alloc (.cells #[.int .i64 y.1.1, .int .i64 y.1.2, .int .i64 (y.2 : Nat)] 128)).alloc (.cells #[.int .i64 x.1.1, .int .i64 x.1.2, .int .i64 (x.2 : Nat)] 128)).drew = W at *
      have HX := hide' (HC.out y.1 x.1)
      clear HC hW
      go_region_held3 (fun w' => w'.cell? ⟨h, 0, none⟩ = Option.some (.func (.func nf) #[] cb) ∧ w'.cell? ⟨w.heap.size + 1, 0, none⟩ = Option.some (.int .i64 x.1.1) ∧ w'.cell? ⟨w.heap.size + 1, 1, none⟩ = Option.some (.int .i64 x.1.2) ∧ w'.cell? ⟨w.heap.size, 0, none⟩ = Option.some (.int .i64 y.1.1) ∧ w'.cell? ⟨w.heap.size, 1, none⟩ = Option.some (.int .i64 y.1.2)) (first | go_keep | exact ⟨k0, k1, k2, k3, k4⟩) ((refine (HX.out W.drew HWb.out.drew).mono ?_; rintro e w2 ⟨rfl, b2⟩; have k0 := (b2.cell (p := ⟨h, 0, none⟩) l3).trans s0; have k1 := (b2.cell (p := ⟨w.heap.size + 1, 0, none⟩) l2).trans s1; have k2 := (b2.cell (p := ⟨w.heap.size + 1, 1, none⟩) l2).trans s2; have k3 := (b2.cell (p := ⟨w.heap.size, 0, none⟩) l1).trans s3; have k4 := (b2.cell (p := ⟨w.heap.size, 1, none⟩) l1).trans s4))
      have b3 := hide' (HWb.out.drew.trans (b2.mono HWb.out.size))
      clear b2 k0 k1 k2 k3 k4 s0 s1 s2 s3 s4
      go_wp2
      go_ret
      exact ⟨rfl, b3.out⟩
  · rw [if_neg ht]
    go_enter Try.func93, Try.ntmps93
    go_wp2_with fail
    go_region
    all_goals go_wp2_with fail
    · have hW := bel2 w (.cells #[.int .i64 x.1.1, .int .i64 x.1.2, .int .i64 (x.2 : Nat)] 128) (.cells #[.int .i64 y.1.1, .int .i64 y.1.2, .int .i64 (y.2 : Nat)] 128)
      have s0 : ((w.alloc (.cells #[.int .i64 x.1.1, .int .i64 x.1.2, .int .i64 (x.2 : Nat)] 128)).alloc (.cells #[.int .i64 y.1.1, .int .i64 y.1.2, .int .i64 (y.2 : Nat)] 128)).drew.cell? ⟨h, 0, none⟩ = Option.some (.func (.func nf) #[] cb) := (hW.cell (p := ⟨h, 0, none⟩) hlt).trans c0
      have s1 : ((w.alloc (.cells #[.int .i64 x.1.1, .int .i64 x.1.2, .int .i64 (x.2 : Nat)] 128)).alloc (.cells #[.int .i64 y.1.1, .int .i64 y.1.2, .int .i64 (y.2 : Nat)] 128)).drew.cell? ⟨w.heap.size, 0, none⟩ = Option.some (.int .i64 x.1.1) := new_fst w _ _ 0 _ rfl
      have s2 : ((w.alloc (.cells #[.int .i64 x.1.1, .int .i64 x.1.2, .int .i64 (x.2 : Nat)] 128)).alloc (.cells #[.int .i64 y.1.1, .int .i64 y.1.2, .int .i64 (y.2 : Nat)] 128)).drew.cell? ⟨w.heap.size, 1, none⟩ = Option.some (.int .i64 x.1.2) := new_fst w _ _ 1 _ rfl
      have s3 : ((w.alloc (.cells #[.int .i64 x.1.1, .int .i64 x.1.2, .int .i64 (x.2 : Nat)] 128)).alloc (.cells #[.int .i64 y.1.1, .int .i64 y.1.2, .int .i64 (y.2 : Nat)] 128)).drew.cell? ⟨w.heap.size + 1, 0, none⟩ = Option.some (.int .i64 y.1.1) := new_snd w _ _ 0 _ rfl
      have s4 : ((w.alloc (.cells #[.int .i64 x.1.1, .int .i64 x.1.2, .int .i64 (x.2 : Nat)] 128)).alloc (.cells #[.int .i64 y.1.1, .int .i64 y.1.2, .int .i64 (y.2 : Nat)] 128)).drew.cell? ⟨w.heap.size + 1, 1, none⟩ = Option.some (.int .i64 y.1.2) := new_snd w _ _ 1 _ rfl
      have l1 := new_lt1 w (.cells #[.int .i64 x.1.1, .int .i64 x.1.2, .int .i64 (x.2 : Nat)] 128) (.cells #[.int .i64 y.1.1, .int .i64 y.1.2, .int .i64 (y.2 : Nat)] 128)
      have l2 := new_lt2 w (.cells #[.int .i64 x.1.1, .int .i64 x.1.2, .int .i64 (x.2 : Nat)] 128) (.cells #[.int .i64 y.1.1, .int .i64 y.1.2, .int .i64 (y.2 : Nat)] 128)
      have l3 := Nat.lt_of_lt_of_le hlt hW.size
      have HWb := hide' hW
      generalize ((w.alloc (.cells #[.int .i64 x.1.1, .int .i64 x.1.2, .int .i64 (x.2 : Nat)] 128)).alloc (.cells #[.int .i64 y.1.1, .int .i64 y.1.2, .int .i64 (y.2 : Nat)] 128)).drew = W at *
      have HX := hide' (HC.out x.1 y.1)
      clear HC hW
      go_region_held3 (fun w' => w'.cell? ⟨h, 0, none⟩ = Option.some (.func (.func nf) #[] cb) ∧ w'.cell? ⟨w.heap.size, 0, none⟩ = Option.some (.int .i64 x.1.1) ∧ w'.cell? ⟨w.heap.size, 1, none⟩ = Option.some (.int .i64 x.1.2) ∧ w'.cell? ⟨w.heap.size + 1, 0, none⟩ = Option.some (.int .i64 y.1.1) ∧ w'.cell? ⟨w.heap.size + 1, 1, none⟩ = Option.some (.int .i64 y.1.2)) (first | go_keep | exact ⟨k0, k1, k2, k3, k4⟩) ((refine (HX.out W.drew HWb.out.drew).mono ?_; rintro e w2 ⟨rfl, b2⟩; have k0 := (b2.cell (p := ⟨h, 0, none⟩) l3).trans s0; have k1 := (b2.cell (p := ⟨w.heap.size, 0, none⟩) l1).trans s1; have k2 := (b2.cell (p := ⟨w.heap.size, 1, none⟩) l1).trans s2; have k3 := (b2.cell (p := ⟨w.heap.size + 1, 0, none⟩) l2).trans s3; have k4 := (b2.cell (p := ⟨w.heap.size + 1, 1, none⟩) l2).trans s4))
      have b3 := hide' (HWb.out.drew.trans (b2.mono HWb.out.size))
      clear b2 k0 k1 k2 k3 k4 s0 s1 s2 s3 s4
      go_wp2
      go_ret
      exact ⟨rfl, b3.out⟩
    · have hW := bel2 w (.cells #[.int .i64 y.1.1, .int .i64 y.1.2, .int .i64 (y.2 : Nat)] 128) (.cells #[.int .i64 x.1.1, .int .i64 x.1.2, .int .i64 (x.2 : Nat)] 128)
      have s0 : ((w.alloc (.cells #[.int .i64 y.1.1, .int .i64 y.1.2, .int .i64 (y.2 : Nat)] 128)).alloc (.cells #[.int .i64 x.1.1, .int .i64 x.1.2, .int .i64 (x.2 : Nat)] 128)).drew.cell? ⟨h, 0, none⟩ = Option.some (.func (.func nf) #[] cb) := (hW.cell (p := ⟨h, 0, none⟩) hlt).trans c0
      have s1 : ((w.alloc (.cells #[.int .i64 y.1.1, .int .i64 y.1.2, .int .i64 (y.2 : Nat)] 128)).alloc (.cells #[.int .i64 x.1.1, .int .i64 x.1.2, .int .i64 (x.2 : Nat)] 128)).drew.cell? ⟨w.heap.size + 1, 0, none⟩ = Option.some (.int .i64 x.1.1) := new_snd w _ _ 0 _ rfl
      have s2 : ((w.alloc (.cells #[.int .i64 y.1.1, .int .i64 y.1.2, .int .i64 (y.2 : Nat)] 128)).alloc (.cells #[.int .i64 x.1.1, .int .i64 x.1.2, .int .i64 (x.2 : Nat)] 128)).drew.cell? ⟨w.heap.size + 1, 1, none⟩ = Option.some (.int .i64 x.1.2) := new_snd w _ _ 1 _ rfl
      have s3 : ((w.alloc (.cells #[.int .i64 y.1.1, .int .i64 y.1.2, .int .i64 (y.2 : Nat)] 128)).alloc (.cells #[.int .i64 x.1.1, .int .i64 x.1.2, .int .i64 (x.2 : Nat)] 128)).drew.cell? ⟨w.heap.size, 0, none⟩ = Option.some (.int .i64 y.1.1) := new_fst w _ _ 0 _ rfl
      have s4 : ((w.alloc (.cells #[.int .i64 y.1.1, .int .i64 y.1.2, .int .i64 (y.2 : Nat)] 128)).alloc (.cells #[.int .i64 x.1.1, .int .i64 x.1.2, .int .i64 (x.2 : Nat)] 128)).drew.cell? ⟨w.heap.size, 1, none⟩ = Option.some (.int .i64 y.1.2) := new_fst w _ _ 1 _ rfl
      have l1 := new_lt1 w (.cells #[.int .i64 y.1.1, .int .i64 y.1.2, .int .i64 (y.2 : Nat)] 128) (.cells #[.int .i64 x.1.1, .int .i64 x.1.2, .int .i64 (x.2 : Nat)] 128)
      have l2 := new_lt2 w (.cells #[.int .i64 y.1.1, .int .i64 y.1.2, .int .i64 (y.2 : Nat)] 128) (.cells #[.int .i64 x.1.1, .int .i64 x.1.2, .int .i64 (x.2 : Nat)] 128)
      have l3 := Nat.lt_of_lt_of_le hlt hW.size
      have HWb := hide' hW
      generalize ((w.alloc (.cells #[.int .i64 y.1.1, .int .i64 y.1.2, .int .i64 (y.2 : Nat)] 128)).alloc (.cells #[.int .i64 x.1.1, .int .i64 x.1.2, .int .i64 (x.2 : Nat)] 128)).drew = W at *
      have HX := hide' (HC.out x.1 y.1)
      clear HC hW
      go_region_held3 (fun w' => w'.cell? ⟨h, 0, none⟩ = Option.some (.func (.func nf) #[] cb) ∧ w'.cell? ⟨w.heap.size + 1, 0, none⟩ = Option.some (.int .i64 x.1.1) ∧ w'.cell? ⟨w.heap.size + 1, 1, none⟩ = Option.some (.int .i64 x.1.2) ∧ w'.cell? ⟨w.heap.size, 0, none⟩ = Option.some (.int .i64 y.1.1) ∧ w'.cell? ⟨w.heap.size, 1, none⟩ = Option.some (.int .i64 y.1.2)) (first | go_keep | exact ⟨k0, k1, k2, k3, k4⟩) ((refine (HX.out W.drew HWb.out.drew).mono ?_; rintro e w2 ⟨rfl, b2⟩; have k0 := (b2.cell (p := ⟨h, 0, none⟩) l3).trans s0; have k1 := (b2.cell (p := ⟨w.heap.size + 1, 0, none⟩) l2).trans s1; have k2 := (b2.cell (p := ⟨w.heap.size + 1, 1, none⟩) l2).trans s2; have k3 := (b2.cell (p := ⟨w.heap.size, 0, none⟩) l1).trans s3; have k4 := (b2.cell (p := ⟨w.heap.size, 1, none⟩) l1).trans s4))
      have b3 := hide' (HWb.out.drew.trans (b2.mono HWb.out.size))
      clear b2 k0 k1 k2 k3 k4 s0 s1 s2 s3 s4
      go_wp2
      go_ret
      exact ⟨rfl, b3.out⟩
end HQ
end Go.Proofs.Ythkmcponnlnpeaa
set_option linter.unusedVariables false
set_option linter.unusedSimpArgs false
namespace Go.Proofs.Ythkmcponnlnpeaa
open Go.RowKit Go.Sort
namespace HQ
open Hp
variable {nf : Nat} {cb : Array Value} {lt : (Int × Int) → (Int × Int) → Bool} {A : Nat → Prop} {K : World → Prop}
variable {B h : Nat} {ao : Option Addr} {cap : Nat} {zs : List ((Int × Int) × Nat)} {cnt : Nat} {w w' : World}
/-- what a sift leaves -/
structure Sift (lt : (Int × Int) → (Int × Int) → Bool) (B h : Nat) (fv : Value) (ao : Option Addr) (cap : Nat) (zs zs' : List ((Int × Int) × Nat)) (cnt : Nat) (w wx : World) : Prop where
  hm : Hm B h fv ao cap zs' cnt wx
  perm : zs'.Perm zs
  turn : Turn (Own h ao) w wx
theorem Less.own (N : Less nf cb lt A K) (hK : K w) (hA : ∀ j, A j → ¬ Own h ao j) (t : Turn (Own h ao) w w') : K w' := N.stay _ w w' hK t hA
theorem tdiv_par (k : Nat) (h : 0 < k) : ((k : Int) - 1).tdiv 2 = ((par k : Nat) : Int) := by
  rw [Int.tdiv_eq_ediv_of_nonneg (by omega)]
  unfold par
  omega
set_option maxRecDepth 100000 in
set_option maxHeartbeats 4000000 in
theorem rise_any (N : Less nf cb lt A K) (k : Nat) (H : Hm B h (.func (.func nf) #[] cb) ao cap zs cnt w) (hK : K w) (hA : ∀ j, A j → ¬ Own h ao j) (hk : k < zs.length) (hl : zs.length ≤ 1099511627776) :
    Calls Try.prog 64 #[.pointer (Option.some ⟨h, 0, none⟩), .int .i64 (k : Nat)] w fun e w' => e = .returned (.tuple #[]) ∧ ∃ zs', Sift lt B h (.func (.func nf) #[] cb) ao cap zs zs' cnt w w' ∧ (SWO lt → Rise (ahd lt) zs k → Heap (ahd lt) zs') := by
  have HN := hide' N
  have HK := hide' hK
  have HA := hide' hA
  have Hl := hide' hl
  have HH := hide' H
  have Hk := hide' hk
  clear N hK hA hl H hk
  go_enter Try.func64, Try.ntmps64
  go_wp2_with fail
  go_loopw [1] (fun i wx => ∃ (q : Nat) (us : List ((Int × Int) × Nat)), i = .int .i64 (q : Int) ∧ q < us.length ∧ Sift lt B h (.func (.func nf) #[] cb) ao cap zs us cnt w wx ∧ (SWO lt → Rise (ahd lt) zs k → Rise (ahd lt) us q)) (fun i _ => (intOf i).toNat)
  case atStart => exact ⟨k, zs, rfl, Hk.out, ⟨HH.out, .refl _, Turn.refl _ _⟩, fun _ r => r⟩
  case round =>
    obtain ⟨q, us, rfl, hq, hS, hR⟩ := hrel
    have hlen := hS.perm.length_eq
    by_cases h0 : q = 0
    · subst h0
      have K0 := hide' (And.intro hS hR)
      clear hS hR hlen hq
      go_wp2
      go_end0
      exact ⟨rfl, us, K0.out.1, fun s r => (K0.out.2 s r).top⟩
    · have hp : 0 < q := by omega
      have hpar : par q < q := by unfold par; omega
      have hu : us[q]? = Option.some us[q] := List.getElem?_eq_getElem hq
      have hv : us[par q]? = Option.some us[par q] := List.getElem?_eq_getElem (by omega)
      have hl' := Hl.out
      have HCa := hide' (ahead_any HN.out (HN.out.own HK.out HA.out hS.turn) q (par q) _ _ hS.hm hu hv)
      have e1 := tdiv_par q hp
      have e2 : wrap64 ((q : Int) - 1) = (q : Int) - 1 := by unfold wrap64; omega
      have e3 : wrap64 ((par q : Nat) : Int) = ((par q : Nat) : Int) := by unfold wrap64; omega
      have e4 : (0 : Int) < (q : Int) := by omega
      have Hq := hide' hq
      have HS := hide' hS
      have HR := hide' hR
      have Hpar := hide' hpar
      have Hhu := hide' hu
      have Hhv := hide' hv
      generalize hxq : us[q] = xq at *
      generalize hxp : us[par q] = xp at *
      clear hS hR hlen hq hpar hu hv hl' h0 hp hxq hxp
      cases hc : ahd lt xq xp
      · rw [hc] at HCa
        go_wp2_with fail
        refine HCa.out.mono ?_
        rintro e w2 ⟨rfl, b2⟩
        have K2 : Hid (Sift lt B h (.func (.func nf) #[] cb) ao cap zs us cnt w w2) := hide' ⟨HS.out.hm.kept (turn_below (S := fun _ => False) b2) (fun _ _ z => z), HS.out.perm, HS.out.turn.trans (turn_below b2)⟩
        clear b2 HCa
        go_wp2
        (try simp only [Exit.inBlock, Exit.then])
        refine bodyPost_ret (results_none rfl _ _ _) rfl ?_
        exact ⟨rfl, us, K2.out, fun s r => (HR.out s r).done (fun x y hx hy => by rw [Hhu.out] at hx; rw [Hhv.out] at hy; cases hx; cases hy; exact hc)⟩
      · rw [hc] at HCa
        go_wp2_with fail
        refine HCa.out.mono ?_
        rintro e w2 ⟨rfl, b2⟩
        have K2 : Hid (Sift lt B h (.func (.func nf) #[] cb) ao cap zs us cnt w w2) := hide' ⟨HS.out.hm.kept (turn_below (S := fun _ => False) b2) (fun _ _ z => z), HS.out.perm, HS.out.turn.trans (turn_below b2)⟩
        have HCs := hide' (swap_any q (par q) _ _ K2.out.hm Hhu.out Hhv.out)
        clear b2 HCa
        go_wp2_with fail
        refine HCs.out.mono ?_
        rintro e w3 ⟨rfl, h3, t3⟩
        have K3 : Hid (Sift lt B h (.func (.func nf) #[] cb) ao cap zs (swp us q (par q)) cnt w w3) := hide' ⟨h3, (swp_perm _ _ _).trans K2.out.perm, K2.out.turn.trans t3⟩
        clear h3 t3 HCs K2
        go_wp2
        exact ⟨⟨par q, swp us q (par q), rfl, by rw [swp_length]; have := Hq.out; have := Hpar.out; omega, K3.out, fun s r => (HR.out s r).step (swo_ahd s) (by omega) Hq.out Hhu.out Hhv.out hc⟩, by have := Hpar.out; show (par q : Int).toNat < (q : Int).toNat; omega⟩
end HQ
end Go.Proofs.Ythkmcponnlnpeaa
set_option linter.unusedVariables false
set_option linter.unusedSimpArgs false
namespace Go.Proofs.Ythkmcponnlnpeaa
open Go.RowKit Go.Sort
namespace HQ
open Hp
variable {nf : Nat} {cb : Array Value} {lt : (Int × Int) → (Int × Int) → Bool} {A : Nat → Prop} {K : World → Prop}
variable {B h : Nat} {ao : Option Addr} {cap : Nat} {zs : List ((Int × Int) × Nat)} {cnt : Nat} {w w' : World}
set_option maxRecDepth 100000 in
set_option maxHeartbeats 4000000 in
theorem sink_any (N : Less nf cb lt A K) (k : Nat) (H : Hm B h (.func (.func nf) #[] cb) ao cap zs cnt w) (hK : K w) (hA : ∀ j, A j → ¬ Own h ao j) (hk : k < zs.length) (hl : zs.length ≤ 1099511627776) :
    Calls Try.prog 70 #[.pointer (Option.some ⟨h, 0, none⟩), .int .i64 (k : Nat)] w fun e w' => e = .returned (.tuple #[]) ∧ ∃ zs', Sift lt B h (.func (.func nf) #[] cb) ao cap zs zs' cnt w w' ∧ (SWO lt → Sink (ahd lt) zs k → Heap (ahd lt) zs') := by
  have HN := hide' N
  have HK := hide' hK
  have HA := hide' hA
  have Hl := hide' hl
  have HH := hide' H
  have Hk := hide' hk
  clear N hK hA hl H hk
  go_enter Try.func70, Try.ntmps70
  go_wp2_with fail
  go_loopw [1] (fun i wx => ∃ (q : Nat) (us : List ((Int × Int) × Nat)), i = .int .i64 (q : Int) ∧ q < us.length ∧ Sift lt B h (.func (.func nf) #[] cb) ao cap zs us cnt w wx ∧ (SWO lt → Sink (ahd lt) zs k → Sink (ahd lt) us q)) (fun i _ => zs.length - (intOf i).toNat)
  case atStart => exact ⟨k, zs, rfl, Hk.out, ⟨HH.out, .refl _, Turn.refl _ _⟩, fun _ r => r⟩
  case round =>
    obtain ⟨q, us, rfl, hq, hS, hR⟩ := hrel
    have hlen := hS.perm.length_eq
    have hl' := Hl.out
    have e1 : wrap64 (2 * (q : Int)) = 2 * (q : Int) := by unfold wrap64; omega
    have e2 : wrap64 (2 * (q : Int) + 1) = 2 * (q : Int) + 1 := by unfold wrap64; omega
    have e3 : wrap64 (2 * (q : Int) + 2) = 2 * (q : Int) + 2 := by unfold wrap64; omega
    have HS := hide' hS
    have HR := hide' hR
    have Hq := hide' hq
    have Hlen := hide' hlen
    clear hS hR hlen hq hl'
    go_wp2_with fail
    simp only [e1, e2]
    go_loopw [4, 5] (fun f b wy => ∃ (f' b' : Nat), f = .int .i64 (f' : Int) ∧ b = .int .i64 (b' : Int) ∧ 2 * q + 1 ≤ b' ∧ b' ≤ 2 * q + 3 ∧ b' ≤ us.length + 2 * q + 1 ∧ Best lt us q f' b' ∧ Sift lt B h (.func (.func nf) #[] cb) ao cap zs us cnt w wy) (fun _ b _ => 2 * q + 3 - (intOf b).toNat)
    case atStart => exact ⟨q, 2 * q + 1, rfl, by go_num, by omega, by omega, by omega, Best.start us q Hq.out, HS.out⟩
    case round =>
      obtain ⟨f, b, rfl, rfl, hb1, hb2, hb3, hB, hS⟩ := hrel
      have hl' := Hl.out
      have hlen := Hlen.out
      have c1 := hS.hm.c1
      by_cases hin : b ≤ 2 * q + 2 ∧ b < us.length
      · obtain ⟨i1, i2⟩ := hin
        have d1 : (b : Int) ≤ 2 * (q : Int) + 2 := by omega
        have d2 : (b : Int) < (us.length : Int) := by omega
        have e5 : wrap64 ((b : Int) + 1) = (b : Int) + 1 := by unfold wrap64; omega
        obtain ⟨xq, hu⟩ : ∃ z, us[b]? = Option.some z := ⟨_, List.getElem?_eq_getElem i2⟩
        obtain ⟨xp, hv⟩ : ∃ z, us[f]? = Option.some z := ⟨_, List.getElem?_eq_getElem hB.lts⟩
        have HCa := hide' (ahead_any HN.out (HN.out.own HK.out HA.out hS.turn) b f _ _ hS.hm hu hv)
        have HB := hide' hB
        have HS2 := hide' hS
        have Hhu := hide' hu
        have Hhv := hide' hv
        have Hb1 := hide' hb1
        have Hi1 := hide' i1
        have Hi2 := hide' i2
        clear hB hS hu hv hb1 hb2 hb3 i1 i2 hl' hlen
        cases hc : ahd lt xq xp
        · rw [hc] at HCa
          go_wp2_with fail
          refine HCa.out.mono ?_
          rintro e w2 ⟨rfl, b2⟩
          have K2 : Hid (Sift lt B h (.func (.func nf) #[] cb) ao cap zs us cnt w w2) := hide' ⟨HS2.out.hm.kept (turn_below (S := fun _ => False) b2) (fun _ _ z => z), HS2.out.perm, HS2.out.turn.trans (turn_below b2)⟩
          clear b2 HCa c1
          go_wp2
          go_roundw
          case rel => exact ⟨f, b + 1, rfl, by go_num, by have := Hb1.out; omega, by have := Hi1.out; omega, by have := Hi2.out; omega, HB.out.stay Hhu.out Hhv.out hc, K2.out⟩
          case measure => rw [e5]; show 2 * q + 3 - ((b : Int) + 1).toNat < 2 * q + 3 - (b : Int).toNat; have := Hi1.out; omega
        · rw [hc] at HCa
          go_wp2_with fail
          refine HCa.out.mono ?_
          rintro e w2 ⟨rfl, b2⟩
          have K2 : Hid (Sift lt B h (.func (.func nf) #[] cb) ao cap zs us cnt w w2) := hide' ⟨HS2.out.hm.kept (turn_below (S := fun _ => False) b2) (fun _ _ z => z), HS2.out.perm, HS2.out.turn.trans (turn_below b2)⟩
          clear b2 HCa c1
          go_wp2
          go_roundw
          case rel => exact ⟨b, b + 1, rfl, by go_num, by have := Hb1.out; omega, by have := Hi1.out; omega, by have := Hi2.out; omega, HB.out.move (by have := Hb1.out; omega) (by have := Hb1.out; have := Hi1.out; unfold par; omega) Hhu.out Hhv.out hc, K2.out⟩
          case measure => rw [e5]; show 2 * q + 3 - ((b : Int) + 1).toNat < 2 * q + 3 - (b : Int).toNat; have := Hi1.out; omega
      · have hlo : ∀ c, 0 < c → c < us.length → par c = q → c < b := fun c h0 hc hp => by unfold par at hp; omega
        have Hlo := hide' hlo
        have HB := hide' hB
        have HS2 := hide' hS
        have hout : ¬ ((b : Int) ≤ 2 * (q : Int) + 2) ∨ ((b : Int) ≤ 2 * (q : Int) + 2 ∧ ¬ ((b : Int) < (us.length : Int))) := by omega
        by_cases hfq : f = q
        · have hfd : (f : Int) = (q : Int) := by omega
          clear hB hS hb1 hb2 hb3 hl' hlen hlo hin
          subst hfq
          clear hfd
          rcases hout with d1 | ⟨d1, d2⟩
          all_goals
            go_wp2
            (try simp only [Exit.inBlock, Exit.then])
            refine bodyPost_ret (results_none rfl _ _ _) rfl ?_
            exact ⟨rfl, us, HS2.out, fun s r => HB.out.done s (HR.out s r) Hlo.out⟩
        · have hfd : ¬ ((f : Int) = (q : Int)) := by omega
          have Hfq := hide' hfq
          have HCs := hide' (swap_any q f _ _ hS.hm (List.getElem?_eq_getElem Hq.out) (List.getElem?_eq_getElem hB.lts))
          have hqf : Hid (q < f) := by
            rcases hB.of with e | ⟨a, b', c⟩
            · exact absurd e hfq
            · exact (show q < f by unfold par at b'; omega)
          clear hB hS hb1 hb2 hb3 hl' hlen hlo hin hfq
          rcases hout with d1 | ⟨d1, d2⟩
          all_goals
            go_wp2_with fail
            refine HCs.out.mono ?_
            rintro e w3 ⟨rfl, h3, t3⟩
            have K3 : Hid (Sift lt B h (.func (.func nf) #[] cb) ao cap zs (swp us q f) cnt w w3) := hide' ⟨h3, (swp_perm _ _ _).trans HS2.out.perm, HS2.out.turn.trans t3⟩
            clear h3 t3 HCs
            go_wp2
            exact ⟨⟨f, swp us q f, rfl, by rw [swp_length]; exact HB.out.lts, K3.out, fun s r => HB.out.step Hfq.out s (HR.out s r) Hlo.out⟩, by have := hqf.out; have := HB.out.lts; have := Hlen.out; show zs.length - (f : Int).toNat < zs.length - (q : Int).toNat; omega⟩
end HQ
end Go.Proofs.Ythkmcponnlnpeaa
set_option linter.unusedVariables false
set_option linter.unusedSimpArgs false
namespace Go.Proofs.Ythkmcponnlnpeaa
open Go.RowKit Go.Sort
namespace HQ
open Hp
variable {nf : Nat} {cb : Array Value} {lt : (Int × Int) → (Int × Int) → Bool} {A : Nat → Prop} {K : World → Prop}
variable {B h : Nat} {fv : Value} {ao : Option Addr} {cap : Nat} {zs : List ((Int × Int) × Nat)} {cnt : Nat} {w w' : World} {D : Nat → Prop}
/-- a heap, and the blocks that are its own -/
def Ho (D : Nat → Prop) (B h : Nat) (fv : Value) (zs : List ((Int × Int) × Nat)) (cnt : Nat) (w : World) : Prop := ∃ ao cap, Hm B h fv ao cap zs cnt w ∧ ∀ j, D j ↔ Own h ao j
/-- what a call on a heap leaves -/
def To (D : Nat → Prop) (B h : Nat) (fv : Value) (zs : List ((Int × Int) × Nat)) (cnt : Nat) (w w' : World) : Prop := ∃ D', Ho D' B h fv zs cnt w' ∧ Turn D w w' ∧ ∀ j, D' j → D j ∨ w.heap.size ≤ j
theorem Ho.lo (H : Ho D B h fv zs cnt w) {j : Nat} (hj : D j) : B ≤ j ∧ j < w.heap.size := by
  obtain ⟨ao, cap, hm, hd⟩ := H
  exact hm.own ((hd j).1 hj)
theorem Ho.base (H : Ho D B h fv zs cnt w) : B ≤ w.heap.size := by
  obtain ⟨ao, cap, hm, hd⟩ := H
  have := hm.lo
  have := hm.lt
  omega
theorem Ho.kept {S : Nat → Prop} (H : Ho D B h fv zs cnt w) (t : Turn S w w') (hn : ∀ j, D j → ¬ S j) : Ho D B h fv zs cnt w' := by
  obtain ⟨ao, cap, hm, hd⟩ := H
  exact ⟨ao, cap, hm.kept t (fun j hj => hn j ((hd j).2 hj)), hd⟩
theorem Ho.below (H : Ho D B h fv zs cnt w) (t : Below w.heap.size w w') : Ho D B h fv zs cnt w' := H.kept (turn_below (S := fun _ => False) t) (fun _ _ q => q)
theorem info : (Try.prog.info? 128).map (fun i => (i.zero, i.size, i.bytes)) = some (some (.agg #[.int .i64 0, .int .i64 0, .int .i64 0]), 3, 24) := by kernel_rfl
/-- a thing more, in its place -/
theorem push_core {z : (Int × Int) × Nat} {gg cap' : Nat} {w0 w1 : World} (H : Hm B h fv ao cap zs cnt w) (hb0 : Below w.heap.size w w0) (hown1 : w1.ownsRow B 128 3 (.slice (some ⟨gg, 0, none⟩) (zs.length + 1) cap') (zs.length + 1) (zs.flatMap ic ++ ic z))
    (hgrow : w0.grownBy w1 (Value.slice ao zs.length cap).ownBlock) (hat : (Value.slice ao zs.length cap).ownBlock = some gg ∨ gg = w0.heap.size) :
    Hm B h fv (some ⟨gg, 0, none⟩) cap' (zs ++ [z]) cnt (w1.setCell ⟨h, 1, none⟩ (.slice (some ⟨gg, 0, none⟩) (zs.length + 1) cap')) ∧ Turn (Own h ao) w (w1.setCell ⟨h, 1, none⟩ (.slice (some ⟨gg, 0, none⟩) (zs.length + 1) cap')) ∧ (M.At ao gg ∨ w.heap.size ≤ gg) := by
  have hgb : M.At ao gg ∨ w.heap.size ≤ gg := by
    rcases hat with q | q
    · exact .inl (M.own_at q)
    · exact .inr (by rw [q]; exact hb0.size)
  have hne : gg ≠ h := by
    rcases hgb with q | q
    · exact (H.at q).1
    · have := H.lt; omega
  have t0 : Turn (M.At ao) w w1 := ((turn_below hb0)).grown hgrow (fun k hk _ => M.own_at hk)
  have hx1 := (t0.block h H.lt (fun q => (H.at q).1 rfl)).trans H.hh
  have t1 : Turn (fun k => k = h) w1 (w1.setCell ⟨h, 1, none⟩ (.slice (some ⟨gg, 0, none⟩) (zs.length + 1) cap')) := (Turn.refl (fun k => k = h) w1).setCell (p := ⟨h, 1, none⟩) (fun _ => rfl) _
  refine ⟨⟨?_, ?_, H.lo⟩, ?_, hgb⟩
  · rw [List.length_append]; exact M.set_block hx1
  · rw [List.length_append, List.flatMap_append]
    have := t1.row hown1 (fun j hj e => by
      have : gg = j := by simpa [Value.ownBlock] using hj
      omega)
    simpa using this
  · exact (t0.mono (fun k _ q => Or.inr q)).trans (t1.mono (fun k _ e => .inl e))
theorem count_core (H : Hm B h fv ao cap zs cnt w) (c : Nat) : Hm B h fv ao cap zs c (w.setCell ⟨h, 2, none⟩ (.int .i64 (c : Nat))) ∧ Turn (Own h ao) w (w.setCell ⟨h, 2, none⟩ (.int .i64 (c : Nat))) := by
  have t1 : Turn (fun k => k = h) w (w.setCell ⟨h, 2, none⟩ (.int .i64 (c : Nat))) := (Turn.refl (fun k => k = h) w).setCell (p := ⟨h, 2, none⟩) (fun _ => rfl) _
  exact ⟨⟨M.set_block H.hh, t1.row H.row (fun j hj e => (H.at (M.own_at hj)).1 e), H.lo⟩, t1.mono (fun k _ e => .inl e)⟩
/-- the end of a push -/
theorem push_end {gg cap' : Nat} {us vs : List ((Int × Int) × Nat)} {w1 w2 : World} (hd : ∀ j, D j ↔ Own h ao j) (t1 : Turn (Own h ao) w w1) (hgb : M.At ao gg ∨ w.heap.size ≤ gg) (S : Sift lt B h fv (some ⟨gg, 0, none⟩) cap' us vs cnt w1 w2) : To D B h fv vs cnt w w2 := by
  have hsub : ∀ j, Own h (some ⟨gg, 0, none⟩) j → D j ∨ w.heap.size ≤ j := by
    rintro j (rfl | ⟨a, ha, rfl⟩)
    · exact .inl ((hd _).2 (.inl rfl))
    · cases ha
      rcases hgb with q | q
      · exact .inl ((hd _).2 (.inr q))
      · exact .inr q
  refine ⟨Own h (some ⟨gg, 0, none⟩), ⟨_, _, S.hm, fun j => Iff.rfl⟩, ?_, hsub⟩
  exact (t1.mono (S' := D) (fun j _ q => (hd j).2 q)).then S.turn (fun j hj q => by
    rcases hsub j q with r | r
    · exact r
    · omega)
set_option maxRecDepth 100000 in
set_option maxHeartbeats 4000000 in
theorem push_any (N : Less nf cb lt A K) (x : (Int × Int)) (H : Ho D B h (.func (.func nf) #[] cb) zs cnt w) (hK : K w) (hA : ∀ j, A j → ¬ D j) (hl : zs.length < 1099511627776) (hc : cnt < 4611686018427387904) :
    Calls Try.prog 24 #[.pointer (some ⟨h, 0, none⟩), .agg #[.int .i64 x.1, .int .i64 x.2]] w fun e w' => e = .returned (.tuple #[]) ∧ ∃ zs', zs'.Perm (zs ++ [(x, cnt)]) ∧ (SWO lt → Heap (ahd lt) zs → Heap (ahd lt) zs') ∧ To D B h (.func (.func nf) #[] cb) zs' (cnt + 1) w w' := by
  have hBw := H.base
  obtain ⟨ao, cap, hm, hd⟩ := H
  obtain ⟨i0, hi0, hz0, hz1, hz2⟩ := info_parts info
  have c1 := hm.c1
  have c2 := hm.c2
  have f1 := hm.fx 1
  have lt := hm.lt
  have row := hm.row
  have n1 : Hid (zs.length + 1 ≤ maxLen) := (show zs.length + 1 ≤ maxLen by unfold maxLen; omega)
  have n2 : Hid ((zs.length + 1) * 24 ≤ 140737488355328) := (show (zs.length + 1) * 24 ≤ 140737488355328 by omega)
  have ne : some h ≠ (Value.slice ao zs.length cap).ownBlock := fun q => (hm.at (M.own_at q.symm)).1 rfl
  have new2 : ∀ o o', ((w.alloc o).alloc o').drew.heap[w.heap.size + 1]? = some o' := fun o o' => by show ((w.alloc o).alloc o').heap[w.heap.size + 1]? = some o'; have := heap_alloc_new (w.alloc o) o'; rw [show (w.alloc o).heap.size = w.heap.size + 1 by simp] at this; exact this
  have new1 := World.new_ne w ⟨h, 1, none⟩ c1
  have newc := World.new_ne w ⟨h, 2, none⟩ c2
  have HH := hide' hm
  have fal : ∀ o o', ((w.alloc o).alloc o').drew.frozen? ⟨h, 1, none⟩ = false := fun o o' => (World.frozen?_of_block (w := w) ((Below.heap_alloc _ _ _ (by simp; omega)).trans (Below.heap_alloc _ _ _ lt))).trans f1
  have cal : ∀ o o', ((w.alloc o).alloc o').drew.cell? ⟨h, 1, none⟩ = some (.slice ao zs.length cap) := fun o o' => (World.cell?_of_block (w := w) ((Below.heap_alloc _ _ _ (by simp; omega)).trans (Below.heap_alloc _ _ _ lt))).trans c1
  have HN := hide' N
  have HK := hide' hK
  have HA := hide' (fun j a (q : Own h ao j) => hA j a ((hd j).2 q))
  have Hd := hide' hd
  have Hl := hide' hl
  have Hw : Hid (wrap64 ((cnt : Int) + 1) = ((cnt + 1 : Nat) : Int)) := (show wrap64 ((cnt : Int) + 1) = ((cnt + 1 : Nat) : Int) by unfold wrap64; omega)
  have Hold := hide' (fun j a => N.old w j hK a)
  clear hl hc hm hd hA hK N
  go_enter Try.func24, Try.ntmps24
  go_wp2_with fail
  go_region_law ((refine step_append_lies _ (by rfl) _ _ _ (by rfl) B 128 i0 _ 3 24 Try.underlying121 hi0 hz0 hz1 hz2 rfl (by omega) (.slice ao zs.length cap) zs.length (zs.flatMap ic) (by rfl) (((row.alloc _).alloc _).drew) ⟨w.heap.size + 1, 0, none⟩ 1 1 [.int .i64 x.1, .int .i64 x.2, .int .i64 (cnt : Nat)] (by rfl) (by rfl) (World.news_of_block (cs := #[.int .i64 x.1, .int .i64 x.2, .int .i64 (cnt : Nat)]) (t := 128) (fr := (0, 0)) (new2 _ _)) (by simp [Value.oneCell']) (by omega) n1.out n2.out (by simp; omega) (w.heap.size + 2) (by simp) ?_; intro gg cap' w1 hown1 hgrow hat hlt; have a0 := (hgrow.cell_far ⟨h, 1, none⟩ (by simp; omega) ne).trans (cal _ _); have a0f := (hgrow.frozen_far ⟨h, 1, none⟩ (by simp; omega) ne).trans (fal _ _)))
  all_goals
    have hb0 : Below w.heap.size w ((w.alloc (.cells #[.int .i64 x.1, .int .i64 x.2] 47)).alloc (.cells #[.int .i64 x.1, .int .i64 x.2, .int .i64 (cnt : Nat)] 128)).drew := (((Below.refl _ _).alloc (Nat.le_refl _) _).alloc (by simp) _).drew
    obtain ⟨L1, S1, S2⟩ := push_core (z := (x, cnt)) HH.out hb0 hown1 hgrow (by simpa using hat)
    generalize (w1.setCell ⟨h, 1, none⟩ (.slice (some ⟨gg, 0, none⟩) (zs.length + 1) cap')) = W at *
    have c1W := L1.c1
    have c2W := L1.c2
    have f2W := L1.fx 2
    obtain ⟨L2, S3⟩ := count_core L1 (cnt + 1)
    have S4 : Turn (Own h ao) w (W.setCell ⟨h, 2, none⟩ (.int .i64 ((cnt + 1 : Nat) : Int))) := S1.then S3 (fun j hj q => by
      rcases q with q | ⟨a, ha, rfl⟩
      · exact .inl q
      · cases ha
        rcases S2 with r | r
        · exact .inr r
        · exfalso; exact absurd hj (Nat.not_lt.2 r))
    have c1V := L2.c1
    rw [List.length_append] at c1W c1V
    have KW : Hid (K (W.setCell ⟨h, 2, none⟩ (.int .i64 ((cnt + 1 : Nat) : Int)))) := HN.out.stay _ _ _ HK.out S4 HA.out
    have HA2 : Hid (∀ j, A j → ¬ Own h (some ⟨gg, 0, none⟩) j) := by
      intro j a q
      rcases q with q | ⟨b, hb, rfl⟩
      · exact HA.out j a (.inl q)
      · cases hb
        rcases S2 with r | r
        · exact HA.out _ a (.inr r)
        · have := Hold.out _ a
          exact absurd this (Nat.not_lt.2 r)
    have HCr := hide' (rise_any HN.out zs.length L2 KW.out HA2.out (by simp) (by rw [List.length_append]; exact Hl.out))
    have KK := hide' (And.intro S4 S2)
    have Hz : Hid (wrap64 (zs.length : Int) = (zs.length : Int)) := (show wrap64 (zs.length : Int) = (zs.length : Int) by have := Hl.out; unfold wrap64; omega)
    have hw := Hw.out
    clear L1 S1 S2 a0 a0f hown1 hgrow hat hlt c1 f1 c2 newc fal cal new1 row ne new2 hb0 L2 S3 S4 KW HA2
    go_wp2_with fail
    rw [Hz.out]
    refine HCr.out.mono ?_
    rintro e w5 ⟨rfl, vs, S5, R5⟩
    have K5 := hide' (And.intro (push_end Hd.out KK.out.1 KK.out.2 S5) (And.intro S5.perm R5))
    clear S5 R5 HCr KK c1W c2W f2W c1V
    go_wp2
    go_end0
    exact ⟨rfl, vs, K5.out.2.1, fun s r => K5.out.2.2 s (Rise.start r _), K5.out.1⟩
end HQ
end Go.Proofs.Ythkmcponnlnpeaa
set_option linter.unusedVariables false
set_option linter.unusedSimpArgs false
namespace Go.Proofs.Ythkmcponnlnpeaa
open Go.RowKit Go.Sort
namespace HQ
open Hp
variable {nf : Nat} {cb : Array Value} {lt : (Int × Int) → (Int × Int) → Bool} {A : Nat → Prop} {K : World → Prop}
variable {B h : Nat} {fv : Value} {ao : Option Addr} {cap : Nat} {zs : List ((Int × Int) × Nat)} {cnt : Nat} {w w' : World} {D : Nat → Prop}
set_option maxRecDepth 100000 in
set_option maxHeartbeats 1000000 in
theorem peek_none (H : Ho D B h fv [] cnt w) : Calls Try.prog 51 #[.pointer (some ⟨h, 0, none⟩)] w fun e w' => e = .returned (.tuple #[.agg #[.int .i64 0, .int .i64 0], .bool false]) ∧ Below w.heap.size w w' := by
  obtain ⟨ao, cap, hm, hd⟩ := H
  have c1 := hm.c1
  rw [List.length_nil] at c1
  have c1a : ∀ o, (w.alloc o).cell? ⟨h, 1, none⟩ = some (.slice ao 0 cap) := fun o => (World.cell?_alloc_lt w o _ hm.lt).trans c1
  have hnew := heap_alloc_new w (.cells #[.int .i64 0, .int .i64 0] 47)
  have hb := (Below.refl w.heap.size w).alloc (Nat.le_refl _) (.cells #[.int .i64 0, .int .i64 0] 47)
  clear hm hd
  go_enter Try.func51, Try.ntmps51
  go_wp2
  (try simp only [Exit.inBlock, Exit.then])
  refine bodyPost_ret (Hp.results_row_tmp rfl _ _ w.heap.size 47 #[.int .i64 0, .int .i64 0] (0, 0) _ rfl hnew Try.underlying47 rfl (by kernel_rfl)) rfl ?_
  exact ⟨rfl, hb⟩
set_option maxRecDepth 100000 in
set_option maxHeartbeats 1000000 in
theorem peek_some {z : (Int × Int) × Nat} (H : Ho D B h fv zs cnt w) (hz : zs[0]? = some z) : Calls Try.prog 51 #[.pointer (some ⟨h, 0, none⟩)] w fun e w' => e = .returned (.tuple #[.agg #[.int .i64 z.1.1, .int .i64 z.1.2], .bool true]) ∧ Below w.heap.size w w' := by
  obtain ⟨ao, cap, hm, hd⟩ := H
  have hl : 0 < zs.length := (List.getElem?_eq_some_iff.1 hz).1
  obtain ⟨g, rfl, hc, hg, hgh⟩ := hm.some hl
  have c1 := hm.c1
  have n1 : w.heap.size ≠ h := World.new_ne w _ c1
  obtain ⟨x0, x1, x2⟩ := hm.item hz
  have c1a : ∀ o, (w.alloc o).cell? ⟨h, 1, none⟩ = some (.slice (some ⟨g, 0, none⟩) zs.length cap) := fun o => (World.cell?_alloc_lt w o _ hm.lt).trans c1
  have hl2 : ¬ ((zs.length : Int) = 0) := by omega
  have hl3 : zs.length ≠ 0 := by omega
  rw [Nat.zero_mul] at x0 x1 x2
  have xa0 := fun o => (World.cell?_alloc_lt w o _ hg).trans x0
  have xa1 := fun o => (World.cell?_alloc_lt w o _ hg).trans x1
  have hnew := heap_alloc_new w (.cells #[.int .i64 z.1.1, .int .i64 z.1.2] 47)
  have hb := (Below.refl w.heap.size w).alloc (Nat.le_refl _) (.cells #[.int .i64 z.1.1, .int .i64 z.1.2] 47)
  clear hm hd hz
  go_enter Try.func51, Try.ntmps51
  go_wp2
  (try simp only [Exit.inBlock, Exit.then])
  refine bodyPost_ret (Hp.results_row_tmp rfl _ _ w.heap.size 47 #[.int .i64 z.1.1, .int .i64 z.1.2] (0, 0) _ rfl hnew Try.underlying47 rfl (by kernel_rfl)) rfl ?_
  exact ⟨rfl, hb⟩
theorem len_any (H : Ho D B h fv zs cnt w) : Calls Try.prog 29 #[.pointer (some ⟨h, 0, none⟩)] w fun e w' => e = .returned (.int .i64 (zs.length : Nat)) ∧ w' = w := by
  obtain ⟨ao, cap, hm, hd⟩ := H
  have c1 := hm.c1
  clear hm hd
  go_enter Try.func29, Try.ntmps29
  go_wp2
  go_ret
  exact ⟨rfl, rfl⟩
theorem eq_func (fn : Fn) (a b : Array Value) (w : World) : (binOp .eql 48 (.func fn a b) .nilFunc).run Try.prog w = .ok (.bool false) w := by kernel_rfl
set_option maxRecDepth 100000 in
theorem new_any (nf : Nat) (cb : Array Value) (w : World) : Calls Try.prog 20 #[.func (.func nf) #[] cb] w fun e w' => e = .returned (.pointer (some ⟨w.heap.size, 0, none⟩)) ∧ ∃ D, Ho D w.heap.size w.heap.size (.func (.func nf) #[] cb) [] 0 w' ∧ Below w.heap.size w w' := by
  have hb := (Below.refl w.heap.size w).alloc (Nat.le_refl _) (.cells #[.func (.func nf) #[] cb, .slice none 0 0, .int .i64 0] 123)
  have hm : Hid (Hm w.heap.size w.heap.size (.func (.func nf) #[] cb) none 0 [] 0 (w.alloc (.cells #[.func (.func nf) #[] cb, .slice none 0 0, .int .i64 0] 123))) := hide' ⟨heap_alloc_new _ _, World.ownsRow_nil _ _ _ _, Nat.le_refl _⟩
  have heq := eq_func
  go_enter Try.func20, Try.ntmps20
  go_wp2
  go_ret
  exact ⟨rfl, _, ⟨none, 0, hm.out, fun _ => Iff.rfl⟩, hb⟩
set_option maxRecDepth 100000 in
set_option maxHeartbeats 1000000 in
theorem sink_none (H : Hm B h fv ao cap [] cnt w) : Calls Try.prog 70 #[.pointer (some ⟨h, 0, none⟩), .int .i64 0] w fun e w' => e = .returned (.tuple #[]) ∧ w' = w := by
  have c1 := H.c1
  rw [List.length_nil] at c1
  clear H
  go_enter Try.func70, Try.ntmps70
  go_wp2_with fail
  go_loopw [1] (fun i wx => i = .int .i64 0 ∧ wx = w) (fun i _ => 0)
  case atStart => exact ⟨rfl, rfl⟩
  case round =>
    obtain ⟨rfl, rfl⟩ := hrel
    go_wp2_with fail
    go_loopw [4, 5] (fun f b wy => f = .int .i64 0 ∧ b = .int .i64 1 ∧ wy = wr) (fun _ b _ => 0)
    case atStart => exact ⟨rfl, rfl, rfl⟩
    case round =>
      obtain ⟨rfl, rfl, rfl⟩ := hrel
      go_wp2
      (try simp only [Exit.inBlock, Exit.then])
      refine bodyPost_ret (results_none rfl _ _ _) rfl ?_
      exact ⟨rfl, rfl⟩
theorem row_set {b : Nat} {t : TypeId} {r : Nat × Nat} {a0 a1 : Value} (hb : w.heap[b]? = some (.cells #[a0, a1] t r)) (v0 v1 : Value) : ((w.setCell ⟨b, 0, none⟩ (v0)).setCell ⟨b, 1, none⟩ (v1)).heap[b]? = some (.cells #[v0, v1] t r) := by
  have h0 := M.set_block (off := 0) (v := v0) hb
  have h1 := M.set_block (off := 1) (v := v1) h0
  exact h1
set_option maxRecDepth 100000 in
set_option maxHeartbeats 1000000 in
theorem pop_none (H : Ho D B h fv [] cnt w) : Calls Try.prog 27 #[.pointer (some ⟨h, 0, none⟩)] w fun e w' => e = .returned (.tuple #[.agg #[.int .i64 0, .int .i64 0], .bool false]) ∧ Below w.heap.size w w' := by
  have hnew := heap_alloc_new w (.cells #[.int .i64 0, .int .i64 0] 47)
  have hba := (Below.refl w.heap.size w).alloc (Nat.le_refl _) (.cells #[.int .i64 0, .int .i64 0] 47)
  have hla : w.heap.size < (w.alloc (.cells #[.int .i64 0, .int .i64 0] 47)).heap.size := by simp
  have HP := hide' (peek_none (H.below hba))
  clear H
  go_enter Try.func27, Try.ntmps27
  go_wp2_with fail
  refine HP.out.mono ?_
  rintro e w1 ⟨rfl, b1⟩
  have hbk := (b1.block w.heap.size (by simp)).trans hnew
  have k0 : w1.cell? ⟨w.heap.size, 0, none⟩ = some (.int .i64 0) := by rw [Lib.cell_of_heap hbk]; rfl
  have k1 : w1.cell? ⟨w.heap.size, 1, none⟩ = some (.int .i64 0) := by rw [Lib.cell_of_heap hbk]; rfl
  have kf := fun j => Lib.frozen_of_heap (w := w1) hbk j
  have b1' : Below w.heap.size w w1 := hba.trans (b1.mono (Nat.le_of_lt hla))
  have hbk2 := row_set hbk (.int .i64 0) (.int .i64 0)
  have b2' : Below w.heap.size w ((w1.setCell ⟨w.heap.size, 0, none⟩ (.int .i64 0)).setCell ⟨w.heap.size, 1, none⟩ (.int .i64 0)) := ((b1'.setCell (p := ⟨w.heap.size, 0, none⟩) (Nat.le_refl _) _).setCell (p := ⟨w.heap.size, 1, none⟩) (Nat.le_refl _) _)
  have hbk3 := row_set hbk2 (.int .i64 0) (.int .i64 0)
  have b3' : Below w.heap.size w ((((w1.setCell ⟨w.heap.size, 0, none⟩ (.int .i64 0)).setCell ⟨w.heap.size, 1, none⟩ (.int .i64 0)).setCell ⟨w.heap.size, 0, none⟩ (.int .i64 0)).setCell ⟨w.heap.size, 1, none⟩ (.int .i64 0)) := ((b2'.setCell (p := ⟨w.heap.size, 0, none⟩) (Nat.le_refl _) _).setCell (p := ⟨w.heap.size, 1, none⟩) (Nat.le_refl _) _)
  have KK := hide' (And.intro hbk3 b3')
  clear HP hbk hbk2 hbk3 b1 b1' b2' b3'
  go_wp2
  (try simp only [Exit.inBlock, Exit.then])
  refine bodyPost_ret (Hp.results_row_tmp rfl _ _ w.heap.size 47 #[.int .i64 0, .int .i64 0] (0, 0) _ rfl KK.out.1 Try.underlying47 rfl (by kernel_rfl)) rfl ?_
  exact ⟨rfl, KK.out.2⟩
/-- the last taken away -/
theorem cut_core {g n : Nat} {us : List ((Int × Int) × Nat)} (H : Hm B h fv (some ⟨g, 0, none⟩) cap us cnt w) (hn : n < us.length) : Hm B h fv (some ⟨g, 0, none⟩) cap (us.take n) cnt ((((w.setCell ⟨g, n * 3, none⟩ (.int .i64 0)).setCell ⟨g, n * 3 + 1, none⟩ (.int .i64 0)).setCell ⟨g, n * 3 + 2, none⟩ (.int .i64 0)).setCell ⟨h, 1, none⟩ (.slice (some ⟨g, 0, none⟩) n cap)) ∧ Turn (Own h (some ⟨g, 0, none⟩)) w ((((w.setCell ⟨g, n * 3, none⟩ (.int .i64 0)).setCell ⟨g, n * 3 + 1, none⟩ (.int .i64 0)).setCell ⟨g, n * 3 + 2, none⟩ (.int .i64 0)).setCell ⟨h, 1, none⟩ (.slice (some ⟨g, 0, none⟩) n cap)) := by
  obtain ⟨h1, t1⟩ := H.put n ((0, 0), 0) hn
  change Hm B h fv (some ⟨g, 0, none⟩) cap (us.set n ((0, 0), 0)) cnt (((w.setCell ⟨g, n * 3, none⟩ (.int .i64 0)).setCell ⟨g, n * 3 + 1, none⟩ (.int .i64 0)).setCell ⟨g, n * 3 + 2, none⟩ (.int .i64 0)) at h1
  change Turn _ w (((w.setCell ⟨g, n * 3, none⟩ (.int .i64 0)).setCell ⟨g, n * 3 + 1, none⟩ (.int .i64 0)).setCell ⟨g, n * 3 + 2, none⟩ (.int .i64 0)) at t1
  generalize (((w.setCell ⟨g, n * 3, none⟩ (.int .i64 0)).setCell ⟨g, n * 3 + 1, none⟩ (.int .i64 0)).setCell ⟨g, n * 3 + 2, none⟩ (.int .i64 0)) = W at *
  have t2 : Turn (fun k => k = h) W (W.setCell ⟨h, 1, none⟩ (.slice (some ⟨g, 0, none⟩) n cap)) := (Turn.refl (fun k => k = h) W).setCell (p := ⟨h, 1, none⟩) (fun _ => rfl) _
  refine ⟨⟨?_, ?_, H.lo⟩, t1.trans (t2.mono (fun k _ e => .inl e))⟩
  · rw [List.length_take, Nat.min_eq_left (by omega)]
    exact M.set_block h1.hh
  · have r1 := own_cut h1.row (k := n) (by rw [List.length_set]; omega)
    rw [flat_take ic_len _ _ (by rw [List.length_set]; omega), List.take_set_of_le (Nat.le_refl _)] at r1
    rw [List.length_take, Nat.min_eq_left (by omega)]
    exact t2.row r1 (fun j hj e => (h1.at (M.own_at hj)).1 e)
/-- the end of a pop -/
theorem pop_end {us vs : List ((Int × Int) × Nat)} {w1 w2 : World} (hd : ∀ j, D j ↔ Own h ao j) (t1 : Turn (Own h ao) w w1) (S : Sift lt B h fv ao cap us vs cnt w1 w2) : To D B h fv vs cnt w w2 :=
  ⟨Own h ao, ⟨_, _, S.hm, fun j => Iff.rfl⟩, (t1.trans S.turn).mono (fun j _ q => (hd j).2 q), fun j hj => .inl ((hd j).2 hj)⟩
theorem pop_end2 {us vs : List ((Int × Int) × Nat)} {w1 w2 w3 : World} {b : Nat} (hd : ∀ j, D j ↔ Own h ao j) (t1 : Turn (Own h ao) w w1) (S : Sift lt B h fv ao cap us vs cnt w1 w2) (t2 : Turn (fun j => j = b) w2 w3) (hb : w.heap.size ≤ b) (hown : ∀ j, Own h ao j → j < w.heap.size) : To D B h fv vs cnt w w3 :=
  ⟨Own h ao, ⟨_, _, S.hm.kept t2 (fun j hj e => by have := hown j hj; omega), fun j => Iff.rfl⟩, ((t1.trans S.turn).mono (fun j _ q => (hd j).2 q)).then t2 (fun j hj e => by omega), fun j hj => .inl ((hd j).2 hj)⟩
end HQ
end Go.Proofs.Ythkmcponnlnpeaa
set_option linter.unusedVariables false
set_option linter.unusedSimpArgs false
namespace Go.Proofs.Ythkmcponnlnpeaa
open Go.RowKit Go.Sort
namespace HQ
open Hp
variable {nf : Nat} {cb : Array Value} {lt : (Int × Int) → (Int × Int) → Bool} {A : Nat → Prop} {K : World → Prop}
variable {B h : Nat} {fv : Value} {ao : Option Addr} {cap : Nat} {zs : List ((Int × Int) × Nat)} {cnt : Nat} {w w' : World} {D : Nat → Prop}
set_option maxRecDepth 100000 in
set_option maxHeartbeats 4000000 in
theorem pop_some (N : Less nf cb lt A K) {z : (Int × Int) × Nat} {n : Nat} (H : Ho D B h (.func (.func nf) #[] cb) zs cnt w) (hK : K w) (hA : ∀ j, A j → ¬ D j) (hn : zs.length = n + 1) (hz : zs[0]? = some z) (hl : zs.length ≤ 1099511627776) :
    Calls Try.prog 27 #[.pointer (some ⟨h, 0, none⟩)] w fun e w' => e = .returned (.tuple #[.agg #[.int .i64 z.1.1, .int .i64 z.1.2], .bool true]) ∧ ∃ zs', (z :: zs').Perm zs ∧ (SWO lt → Heap (ahd lt) zs → Heap (ahd lt) zs') ∧ To D B h (.func (.func nf) #[] cb) zs' cnt w w' := by
  have HH := hide' H
  have hnew := heap_alloc_new w (.cells #[.int .i64 0, .int .i64 0] 47)
  have hba := (Below.refl w.heap.size w).alloc (Nat.le_refl _) (.cells #[.int .i64 0, .int .i64 0] 47)
  have hla : w.heap.size < (w.alloc (.cells #[.int .i64 0, .int .i64 0] 47)).heap.size := by simp
  have HP := hide' (peek_some (H.below hba) hz)
  obtain ⟨ao, cap, hm, hd⟩ := H
  obtain ⟨g, rfl, hc, hg, hgh⟩ := hm.some (by omega)
  have HN := hide' N
  have HK := hide' hK
  have HA := hide' (fun j a (q : Own h (some ⟨g, 0, none⟩) j) => hA j a ((hd j).2 q))
  have Hd := hide' hd
  have Hl := hide' hl
  have Hz := hide' hz
  have Hn := hide' hn
  have Hm0 := hide' hm
  have Hcap := hide' hc
  have Hw : Hid (wrap64 (n : Int) = (n : Int)) := (show wrap64 (n : Int) = (n : Int) by unfold wrap64; omega)
  obtain ⟨zl, hzl⟩ : ∃ y, zs[n]? = some y := ⟨_, List.getElem?_eq_getElem (by omega)⟩
  have Hzl := hide' hzl
  have hwn := Hw.out
  have hcn : n + 1 ≤ cap := by omega
  have hnc : n ≤ cap := by omega
  clear N hK hA hd hl hz hzl hc
  go_enter Try.func27, Try.ntmps27
  go_wp2_with fail
  refine HP.out.mono ?_
  rintro e w1 ⟨rfl, b1⟩
  have hbk := (b1.block w.heap.size (by simp)).trans hnew
  have k0 : w1.cell? ⟨w.heap.size, 0, none⟩ = some (.int .i64 0) := by rw [Lib.cell_of_heap hbk]; rfl
  have k1 : w1.cell? ⟨w.heap.size, 1, none⟩ = some (.int .i64 0) := by rw [Lib.cell_of_heap hbk]; rfl
  have kf := fun j => Lib.frozen_of_heap (w := w1) hbk j
  have b1' : Below w.heap.size w w1 := hba.trans (b1.mono (Nat.le_of_lt hla))
  have hbk2 := row_set hbk (.int .i64 z.1.1) (.int .i64 z.1.2)
  have b2' : Below w.heap.size w ((w1.setCell ⟨w.heap.size, 0, none⟩ (.int .i64 z.1.1)).setCell ⟨w.heap.size, 1, none⟩ (.int .i64 z.1.2)) := ((b1'.setCell (p := ⟨w.heap.size, 0, none⟩) (Nat.le_refl _) _).setCell (p := ⟨w.heap.size, 1, none⟩) (Nat.le_refl _) _)
  have hm2 := hm.kept (turn_below (S := fun _ => False) b2') (fun _ _ q => q)
  have c1w := (hm.kept (turn_below (S := fun _ => False) b1') (fun _ _ q => q)).c1
  rw [hn] at c1w
  have hbh : w.heap.size ≠ h := fun e => Nat.lt_irrefl _ (e ▸ hm.lt)
  have Hbk2 := hide' hbk2
  have c1 := hm2.c1
  rw [hn] at c1
  have HCs := hide' (swap_any 0 n z zl hm2 Hz.out Hzl.out)
  have Hb2 := hide' b2'
  clear hn hm HP b1 hm2 b2' HH c1 hbk hbk2 b1' hnew hba hla
  go_wp2_with fail
  rw [hwn]
  generalize ((w1.setCell ⟨w.heap.size, 0, none⟩ (.int .i64 z.1.1)).setCell ⟨w.heap.size, 1, none⟩ (.int .i64 z.1.2)) = W2 at *
  refine HCs.out.mono ?_
  rintro e w3 ⟨rfl, h3, t3⟩
  clear HCs c1w kf k0 k1
  have len3 : (swp zs 0 n).length = n + 1 := by rw [swp_length]; exact Hn.out
  have c3 := h3.c1
  rw [len3] at c3
  have fh3 := h3.fx 1
  obtain ⟨y3, hy3⟩ : ∃ y, (swp zs 0 n)[n]? = some y := ⟨_, List.getElem?_eq_getElem (by omega)⟩
  obtain ⟨i0, i1, i2⟩ := h3.item hy3
  have fr3 := h3.fr
  obtain ⟨h4, t4⟩ := cut_core h3 (n := n) (by omega)
  have t24 := t3.trans t4
  have K4 := hide' (And.intro h4 t24)
  have Hbk4 : Hid (((((w3.setCell ⟨g, n * 3, none⟩ (.int .i64 0)).setCell ⟨g, n * 3 + 1, none⟩ (.int .i64 0)).setCell ⟨g, n * 3 + 2, none⟩ (.int .i64 0)).setCell ⟨h, 1, none⟩ (.slice (some ⟨g, 0, none⟩) n cap)).heap[w.heap.size]? = some (.cells #[.int .i64 z.1.1, .int .i64 z.1.2] 47 (0, 0))) := hide' ((t24.block w.heap.size (lt_of_heap Hbk2.out) (fun q => Nat.lt_irrefl _ (Hm0.out.own q).2)).trans Hbk2.out)
  clear h4 t24 t4 h3 t3 hy3 len3
  go_wp2_with fail
  generalize (((w3.setCell ⟨g, n * 3, none⟩ (.int .i64 0)).setCell ⟨g, n * 3 + 1, none⟩ (.int .i64 0)).setCell ⟨g, n * 3 + 2, none⟩ (.int .i64 0)).setCell ⟨h, 1, none⟩ (.slice (some ⟨g, 0, none⟩) n cap) = W4 at *
  clear c3 fh3 i0 i1 i2 fr3
  have tW : Turn (Own h (some ⟨g, 0, none⟩)) w W4 := (turn_below Hb2.out).trans K4.out.2
  have KW4 : Hid (K W4) := HN.out.stay _ _ _ HK.out tW HA.out
  have HTW := hide' tW
  have hS : Hid (Calls Try.prog 70 #[.pointer (some ⟨h, 0, none⟩), .int .i64 0] W4 fun e w' => e = .returned (.tuple #[]) ∧ ∃ vs, Sift lt B h (.func (.func nf) #[] cb) (some ⟨g, 0, none⟩) cap ((swp zs 0 n).take n) vs cnt W4 w' ∧ (SWO lt → Sink (ahd lt) ((swp zs 0 n).take n) 0 → Heap (ahd lt) vs)) := by
    by_cases h0 : n = 0
    · subst h0
      have h5 := K4.out.1
      rw [List.take_zero] at h5
      refine (sink_none h5).mono ?_
      rintro e w' ⟨he, hw⟩
      subst hw
      rw [List.take_zero]
      exact ⟨he, [], ⟨h5, .refl _, Turn.refl _ _⟩, fun _ _ i hi0 hi => by simp at hi⟩
    · have hl5 : ((swp zs 0 n).take n).length = n := by rw [List.length_take, swp_length]; have := Hn.out; omega
      exact sink_any HN.out 0 K4.out.1 KW4.out HA.out (by omega) (by have := Hl.out; have := Hn.out; omega)
  clear tW
  refine hS.out.mono ?_
  rintro e w5 ⟨rfl, vs, S5, R5⟩
  have KK : Hid ((z :: vs).Perm zs ∧ (SWO lt → Heap (ahd lt) zs → Heap (ahd lt) vs) ∧ To D B h (.func (.func nf) #[] cb) vs cnt w w5) := hide' ⟨(List.Perm.cons z S5.perm).trans (take_perm Hn.out Hz.out), fun s r => R5 s (Sink.start r Hn.out), pop_end Hd.out HTW.out S5⟩
  have hbk5 := (S5.turn.block w.heap.size (lt_of_heap Hbk4.out) (fun q => Nat.lt_irrefl _ (Hm0.out.own q).2)).trans Hbk4.out
  have m0 : w5.cell? ⟨w.heap.size, 0, none⟩ = some (.int .i64 z.1.1) := by rw [Lib.cell_of_heap hbk5]; rfl
  have m1 : w5.cell? ⟨w.heap.size, 1, none⟩ = some (.int .i64 z.1.2) := by rw [Lib.cell_of_heap hbk5]; rfl
  have mf := fun j => Lib.frozen_of_heap (w := w5) hbk5 j
  have KR := hide' (row_set hbk5 (.int .i64 z.1.1) (.int .i64 z.1.2))
  have t6 : Turn (fun j => j = w.heap.size) w5 ((w5.setCell ⟨w.heap.size, 0, none⟩ (.int .i64 z.1.1)).setCell ⟨w.heap.size, 1, none⟩ (.int .i64 z.1.2)) := ((Turn.refl (fun j => j = w.heap.size) w5).setCell (p := ⟨w.heap.size, 0, none⟩) (fun _ => rfl) _).setCell (p := ⟨w.heap.size, 1, none⟩) (fun _ => rfl) _
  have KT : Hid (To D B h (.func (.func nf) #[] cb) vs cnt w ((w5.setCell ⟨w.heap.size, 0, none⟩ (.int .i64 z.1.1)).setCell ⟨w.heap.size, 1, none⟩ (.int .i64 z.1.2))) := hide' (pop_end2 Hd.out HTW.out S5 t6 (Nat.le_refl _) (fun j q => (Hm0.out.own q).2))
  clear t6
  clear hbk5
  clear S5 R5 hS HTW K4
  go_wp2
  (try simp only [Exit.inBlock, Exit.then])
  refine bodyPost_ret (Hp.results_row_tmp rfl _ _ w.heap.size 47 #[.int .i64 z.1.1, .int .i64 z.1.2] (0, 0) _ rfl KR.out Try.underlying47 rfl (by kernel_rfl)) rfl ?_
  exact ⟨rfl, vs, KK.out.1, KK.out.2.1, KT.out⟩
end HQ
end Go.Proofs.Ythkmcponnlnpeaa
set_option linter.unusedVariables false
set_option linter.unusedSimpArgs false
namespace Go.Proofs.Ythkmcponnlnpeaa
open Go.RowKit Go.Sort
namespace HQ
open Hp
variable {nf : Nat} {cb : Array Value} {lt : (Int × Int) → (Int × Int) → Bool}
variable {B h : Nat} {fv : Value} {zs : List ((Int × Int) × Nat)} {cnt : Nat} {w w' : World} {D : Nat → Prop}
theorem Ho.kind (H : Ho D B h fv zs cnt w) {j : Nat} (hj : D j) : ∃ c t, w.heap[j]? = some (.cells c t (0, 0)) ∧ (t = 123 ∨ t = 128) := by
  obtain ⟨ao, cap, hm, hd⟩ := H
  rcases (hd j).1 hj with rfl | ⟨a, rfl, rfl⟩
  · exact ⟨_, _, hm.hh, .inl rfl⟩
  · rcases hm.row.2 with ⟨hv, _⟩ | ⟨g', cap', cur, hv, hb, hg', _⟩
    · cases hv
    · simp only [Value.slice.injEq, Option.some.injEq] at hv
      obtain ⟨rfl, _, _⟩ := hv
      exact ⟨_, _, hg', .inr rfl⟩
theorem Ho.not (H : Ho D B h fv zs cnt w) {b : Nat} {c : Array Value} {t : TypeId} {r : Nat × Nat} (hb : w.heap[b]? = some (.cells c t r)) (h1 : t ≠ 123) (h2 : t ≠ 128) : ¬ D b := by
  intro q
  obtain ⟨c', t', e, ht⟩ := H.kind q
  rw [hb] at e
  cases e
  rcases ht with rfl | rfl
  · exact h1 rfl
  · exact h2 rfl
theorem To.below {zs' : List ((Int × Int) × Nat)} {cnt' B0 : Nat} {w0 : World} (H : Ho D B h fv zs cnt w) (T : To D B h fv zs' cnt' w w') (b : Below B0 w0 w) (hB : B0 ≤ B) : Below B0 w0 w' := by
  obtain ⟨D', _, t, _⟩ := T
  exact b.trans (t.below (fun j q => Nat.le_trans hB (H.lo q).1) (Nat.le_trans hB H.base))
/-- the least of all -/
theorem least {L : List ((Int × Int) × Nat)} {z : (Int × Int) × Nat} (S : SWO lt) (hp : zs.Perm L) (hh : Heap (ahd lt) zs) (hz : zs[0]? = some z) : z ∈ L ∧ ∀ y ∈ L, ahd lt y z = false := by
  refine ⟨hp.mem_iff.1 (List.mem_of_getElem? hz), fun y hy => ?_⟩
  obtain ⟨i, hi⟩ := List.mem_iff_getElem?.1 (hp.mem_iff.2 hy)
  exact hh.root (swo_ahd S) i y z hi hz
end HQ
end Go.Proofs.Ythkmcponnlnpeaa
