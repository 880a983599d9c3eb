import Derived.Test.YtfeehnfpfheojaaHmB
import Derived.Deep.QuietTactic
import Derived.Deep.RegionHeld3
set_option linter.unusedVariables false
set_option linter.unusedSimpArgs false
namespace Go.Proofs.Ytfeehnfpfheojaa
open Go.RowKit Go.Sort
namespace HB
open Hp
/-- WHAT THE ORDER'S FUNCTION TELLS: K holds of the world, and stays while the blocks of A stay -/
structure Less (nf : Nat) (cb : Array Value) (lt : Bk → Bk → Bool) (A : Nat → Prop) (K : World → Prop) : Prop where
  enters : ∀ args w, (callFunc nf args).run Try.prog w = .ok (.enter nf args) w
  call : ∀ x y w, K w → Calls Try.prog nf (#[.agg #[.int .i64 x.addr, .int .i64 x.size, .bool x.free], .agg #[.int .i64 y.addr, .int .i64 y.size, .bool y.free]] ++ cb) w fun e w' => e = .returned (.bool (lt x y)) ∧ Below w.heap.size w w'
  stay : ∀ S w w', K w → Turn S w w' → (∀ j, A j → ¬ S j) → K w'
  old : ∀ w j, K w → A j → j < w.heap.size
variable {nf : Nat} {cb : Array Value} {lt : Bk → Bk → Bool} {A : Nat → Prop} {K : World → Prop}
theorem Less.below (N : Less nf cb lt A K) {w w' : World} (h : K w) (b : Below w.heap.size w w') : K w' := N.stay (fun _ => False) w w' h (turn_below b) (fun _ _ q => q)
variable {B h : Nat} {ao : Option Addr} {cap : Nat} {zs : List (Bk × Nat)} {cnt : Nat} {w w' : World}
set_option maxRecDepth 100000 in
set_option maxHeartbeats 4000000 in
theorem new_fst (w : World) (o2 : Obj) (cs : Array Value) {t : TypeId} (r : Nat) (v : Value) (hv : cs[r]? = Option.some v) : ((w.alloc (.cells cs t)).alloc o2).drew.cell? ⟨w.heap.size, r, none⟩ = Option.some v := by
  show ((w.alloc (.cells cs t)).alloc o2).cell? ⟨w.heap.size, r, none⟩ = _
  rw [World.cell?_of_block (Below.heap_alloc (w.alloc (.cells cs t)) o2 _ (by simp)), Lib.cell_of_heap (heap_alloc_new w _), hv]
theorem new_snd (w : World) (o1 : Obj) (cs : Array Value) {t : TypeId} (r : Nat) (v : Value) (hv : cs[r]? = Option.some v) : ((w.alloc o1).alloc (.cells cs t)).drew.cell? ⟨w.heap.size + 1, r, none⟩ = Option.some v := by
  show ((w.alloc o1).alloc (.cells cs t)).cell? ⟨w.heap.size + 1, r, none⟩ = _
  have := heap_alloc_new (w.alloc o1) (.cells cs t)
  rw [show (w.alloc o1).heap.size = w.heap.size + 1 by simp] at this
  rw [Lib.cell_of_heap this, hv]
theorem new_lt1 (w : World) (o1 o2 : Obj) : w.heap.size < ((w.alloc o1).alloc o2).drew.heap.size := by show w.heap.size < ((w.alloc o1).alloc o2).heap.size; simp; omega
theorem new_lt2 (w : World) (o1 o2 : Obj) : w.heap.size + 1 < ((w.alloc o1).alloc o2).drew.heap.size := by show w.heap.size + 1 < ((w.alloc o1).alloc o2).heap.size; simp
theorem bel2 (w : World) (o1 o2 : Obj) : Below w.heap.size w ((w.alloc o1).alloc o2).drew := (((Below.refl _ _).alloc (Nat.le_refl _) _).alloc (by simp) _).drew
set_option maxRecDepth 100000 in
set_option maxHeartbeats 4000000 in
theorem ahead_any (N : Less nf cb lt A K) (hK : K w) (i j : Nat) (x y : Bk × Nat) (H : Hm B h (.func (.func nf) #[] cb) ao cap zs cnt w) (hi : zs[i]? = Option.some x) (hj : zs[j]? = Option.some y) :
    Calls Try.prog 118 #[.pointer (Option.some ⟨h, 0, none⟩), .int .i64 (i : Nat), .int .i64 (j : Nat)] w fun e w' => e = .returned (.bool (ahd lt x y)) ∧ Below w.heap.size w w' := by
  have li : i < zs.length := (List.getElem?_eq_some_iff.1 hi).1
  have lj : j < zs.length := (List.getElem?_eq_some_iff.1 hj).1
  obtain ⟨g, rfl, hc, hg, hgh⟩ := H.some (by omega)
  have c0 := H.c0
  have c1 := H.c1
  have hlt := H.lt
  have hent := N.enters
  have HC := hide' (fun x y w1 (b : Below w.heap.size w w1) => N.call x y w1 (N.below hK b))
  obtain ⟨x0, x1, x2, x3⟩ := H.item hi
  obtain ⟨y0, y1, y2, y3⟩ := H.item hj
  have n0 := World.new_ne w _ c0
  have n1 := World.new_ne w _ c1
  have nx0 := World.new_ne w _ x0
  have nx1 := World.new_ne w _ x1
  have nx2 := World.new_ne w _ x2
  have nx3 := World.new_ne w _ x3
  have ny0 := World.new_ne w _ y0
  have ny1 := World.new_ne w _ y1
  have ny2 := World.new_ne w _ y2
  have ny3 := World.new_ne w _ y3
  clear H hi hj N hK
  unfold ahd
  by_cases ht : x.2 < y.2
  · rw [if_pos ht]
    go_enter Try.func118, Try.ntmps118
    go_wp2_with fail
    go_region
    all_goals go_wp2_with fail
    · have hW := bel2 w (.cells #[.int .i64 x.1.addr, .int .i64 x.1.size, .bool x.1.free, .int .i64 (x.2 : Nat)] 165) (.cells #[.int .i64 y.1.addr, .int .i64 y.1.size, .bool y.1.free, .int .i64 (y.2 : Nat)] 165)
      have s0 : ((w.alloc (.cells #[.int .i64 x.1.addr, .int .i64 x.1.size, .bool x.1.free, .int .i64 (x.2 : Nat)] 165)).alloc (.cells #[.int .i64 y.1.addr, .int .i64 y.1.size, .bool y.1.free, .int .i64 (y.2 : Nat)] 165)).drew.cell? ⟨h, 0, none⟩ = Option.some (.func (.func nf) #[] cb) := (hW.cell (p := ⟨h, 0, none⟩) hlt).trans c0
      have s1 : ((w.alloc (.cells #[.int .i64 x.1.addr, .int .i64 x.1.size, .bool x.1.free, .int .i64 (x.2 : Nat)] 165)).alloc (.cells #[.int .i64 y.1.addr, .int .i64 y.1.size, .bool y.1.free, .int .i64 (y.2 : Nat)] 165)).drew.cell? ⟨w.heap.size, 0, none⟩ = Option.some (.int .i64 x.1.addr) := new_fst w _ _ 0 _ rfl
      have s2 : ((w.alloc (.cells #[.int .i64 x.1.addr, .int .i64 x.1.size, .bool x.1.free, .int .i64 (x.2 : Nat)] 165)).alloc (.cells #[.int .i64 y.1.addr, .int .i64 y.1.size, .bool y.1.free, .int .i64 (y.2 : Nat)] 165)).drew.cell? ⟨w.heap.size, 1, none⟩ = Option.some (.int .i64 x.1.size) := new_fst w _ _ 1 _ rfl
      have s3 : ((w.alloc (.cells #[.int .i64 x.1.addr, .int .i64 x.1.size, .bool x.1.free, .int .i64 (x.2 : Nat)] 165)).alloc (.cells #[.int .i64 y.1.addr, .int .i64 y.1.size, .bool y.1.free, .int .i64 (y.2 : Nat)] 165)).drew.cell? ⟨w.heap.size, 2, none⟩ = Option.some (.bool x.1.free) := new_fst w _ _ 2 _ rfl
      have s4 : ((w.alloc (.cells #[.int .i64 x.1.addr, .int .i64 x.1.size, .bool x.1.free, .int .i64 (x.2 : Nat)] 165)).alloc (.cells #[.int .i64 y.1.addr, .int .i64 y.1.size, .bool y.1.free, .int .i64 (y.2 : Nat)] 165)).drew.cell? ⟨w.heap.size + 1, 0, none⟩ = Option.some (.int .i64 y.1.addr) := new_snd w _ _ 0 _ rfl
      have s5 : ((w.alloc (.cells #[.int .i64 x.1.addr, .int .i64 x.1.size, .bool x.1.free, .int .i64 (x.2 : Nat)] 165)).alloc (.cells #[.int .i64 y.1.addr, .int .i64 y.1.size, .bool y.1.free, .int .i64 (y.2 : Nat)] 165)).drew.cell? ⟨w.heap.size + 1, 1, none⟩ = Option.some (.int .i64 y.1.size) := new_snd w _ _ 1 _ rfl
      have s6 : ((w.alloc (.cells #[.int .i64 x.1.addr, .int .i64 x.1.size, .bool x.1.free, .int .i64 (x.2 : Nat)] 165)).alloc (.cells #[.int .i64 y.1.addr, .int .i64 y.1.size, .bool y.1.free, .int .i64 (y.2 : Nat)] 165)).drew.cell? ⟨w.heap.size + 1, 2, none⟩ = Option.some (.bool y.1.free) := new_snd w _ _ 2 _ rfl
      have l1 := new_lt1 w (.cells #[.int .i64 x.1.addr, .int .i64 x.1.size, .bool x.1.free, .int .i64 (x.2 : Nat)] 165) (.cells #[.int .i64 y.1.addr, .int .i64 y.1.size, .bool y.1.free, .int .i64 (y.2 : Nat)] 165)
      have l2 := new_lt2 w (.cells #[.int .i64 x.1.addr, .int .i64 x.1.size, .bool x.1.free, .int .i64 (x.2 : Nat)] 165) (.cells #[.int .i64 y.1.addr, .int .i64 y.1.size, .bool y.1.free, .int .i64 (y.2 : Nat)] 165)
      have l3 := Nat.lt_of_lt_of_le hlt hW.size
      have HWb := hide' hW
      generalize ((w.alloc (.cells #[.int .i64 x.1.addr, .int .i64 x.1.size, .bool x.1.free, .int .i64 (x.2 : Nat)] 165)).alloc (.cells #[.int .i64 y.1.addr, .int .i64 y.1.size, .bool y.1.free, .int .i64 (y.2 : Nat)] 165)).drew = W at *
      have HX := hide' (HC.out y.1 x.1)
      clear HC hW
      go_region_held3 (fun w' => w'.cell? ⟨h, 0, none⟩ = Option.some (.func (.func nf) #[] cb) ∧ w'.cell? ⟨w.heap.size, 0, none⟩ = Option.some (.int .i64 x.1.addr) ∧ w'.cell? ⟨w.heap.size, 1, none⟩ = Option.some (.int .i64 x.1.size) ∧ w'.cell? ⟨w.heap.size, 2, none⟩ = Option.some (.bool x.1.free) ∧ w'.cell? ⟨w.heap.size + 1, 0, none⟩ = Option.some (.int .i64 y.1.addr) ∧ w'.cell? ⟨w.heap.size + 1, 1, none⟩ = Option.some (.int .i64 y.1.size) ∧ w'.cell? ⟨w.heap.size + 1, 2, none⟩ = Option.some (.bool y.1.free)) (first | go_keep | exact ⟨k0, k1, k2, k3, k4, k5, k6⟩) ((refine (HX.out W.drew HWb.out.drew).mono ?_; rintro e w2 ⟨rfl, b2⟩; have k0 := (b2.cell (p := ⟨h, 0, none⟩) l3).trans s0; have k1 := (b2.cell (p := ⟨w.heap.size, 0, none⟩) l1).trans s1; have k2 := (b2.cell (p := ⟨w.heap.size, 1, none⟩) l1).trans s2; have k3 := (b2.cell (p := ⟨w.heap.size, 2, none⟩) l1).trans s3; have k4 := (b2.cell (p := ⟨w.heap.size + 1, 0, none⟩) l2).trans s4; have k5 := (b2.cell (p := ⟨w.heap.size + 1, 1, none⟩) l2).trans s5; have k6 := (b2.cell (p := ⟨w.heap.size + 1, 2, none⟩) l2).trans s6))
      have b3 := hide' (HWb.out.drew.trans (b2.mono HWb.out.size))
      clear b2 k0 k1 k2 k3 k4 k5 k6 s0 s1 s2 s3 s4 s5 s6
      go_wp2
      go_ret
      exact ⟨rfl, b3.out⟩
    · have hW := bel2 w (.cells #[.int .i64 y.1.addr, .int .i64 y.1.size, .bool y.1.free, .int .i64 (y.2 : Nat)] 165) (.cells #[.int .i64 x.1.addr, .int .i64 x.1.size, .bool x.1.free, .int .i64 (x.2 : Nat)] 165)
      have s0 : ((w.alloc (.cells #[.int .i64 y.1.addr, .int .i64 y.1.size, .bool y.1.free, .int .i64 (y.2 : Nat)] 165)).alloc (.cells #[.int .i64 x.1.addr, .int .i64 x.1.size, .bool x.1.free, .int .i64 (x.2 : Nat)] 165)).drew.cell? ⟨h, 0, none⟩ = Option.some (.func (.func nf) #[] cb) := (hW.cell (p := ⟨h, 0, none⟩) hlt).trans c0
      have s1 : ((w.alloc (.cells #[.int .i64 y.1.addr, .int .i64 y.1.size, .bool y.1.free, .int .i64 (y.2 : Nat)] 165)).alloc (.cells #[.int .i64 x.1.addr, .int .i64 x.1.size, .bool x.1.free, .int .i64 (x.2 : Nat)] 165)).drew.cell? ⟨w.heap.size + 1, 0, none⟩ = Option.some (.int .i64 x.1.addr) := new_snd w _ _ 0 _ rfl
      have s2 : ((w.alloc (.cells #[.int .i64 y.1.addr, .int .i64 y.1.size, .bool y.1.free, .int .i64 (y.2 : Nat)] 165)).alloc (.cells #[.int .i64 x.1.addr, .int .i64 x.1.size, .bool x.1.free, .int .i64 (x.2 : Nat)] 165)).drew.cell? ⟨w.heap.size + 1, 1, none⟩ = Option.some (.int .i64 x.1.size) := new_snd w _ _ 1 _ rfl
      have s3 : ((w.alloc (.cells #[.int .i64 y.1.addr, .int .i64 y.1.size, .bool y.1.free, .int .i64 (y.2 : Nat)] 165)).alloc (.cells #[.int .i64 x.1.addr, .int .i64 x.1.size, .bool x.1.free, .int .i64 (x.2 : Nat)] 165)).drew.cell? ⟨w.heap.size + 1, 2, none⟩ = Option.some (.bool x.1.free) := new_snd w _ _ 2 _ rfl
      have s4 : ((w.alloc (.cells #[.int .i64 y.1.addr, .int .i64 y.1.size, .bool y.1.free, .int .i64 (y.2 : Nat)] 165)).alloc (.cells #[.int .i64 x.1.addr, .int .i64 x.1.size, .bool x.1.free, .int .i64 (x.2 : Nat)] 165)).drew.cell? ⟨w.heap.size, 0, none⟩ = Option.some (.int .i64 y.1.addr) := new_fst w _ _ 0 _ rfl
      have s5 : ((w.alloc (.cells #[.int .i64 y.1.addr, .int .i64 y.1.size, .bool y.1.free, .int .i64 (y.2 : Nat)] 165)).alloc (.cells #[.int .i64 x.1.addr, .int .i64 x.1.size, .bool x.1.free, .int .i64 (x.2 : Nat)] 165)).drew.cell? ⟨w.heap.size, 1, none⟩ = Option.some (.int .i64 y.1.size) := new_fst w _ _ 1 _ rfl
      have s6 : ((w.alloc (.cells #[.int .i64 y.1.addr, .int .i64 y.1.size, .bool y.1.free, .int .i64 (y.2 : Nat)] 165)).alloc (.cells #[.int .i64 x.1.addr, .int .i64 x.1.size, .bool x.1.free, .int .i64 (x.2 : Nat)] 165)).drew.cell? ⟨w.heap.size, 2, none⟩ = Option.some (.bool y.1.free) := new_fst w _ _ 2 _ rfl
      have l1 := new_lt1 w (.cells #[.int .i64 y.1.addr, .int .i64 y.1.size, .bool y.1.free, .int .i64 (y.2 : Nat)] 165) (.cells #[.int .i64 x.1.addr, .int .i64 x.1.size, .bool x.1.free, .int .i64 (x.2 : Nat)] 165)
      have l2 := new_lt2 w (.cells #[.int .i64 y.1.addr, .int .i64 y.1.size, .bool y.1.free, .int .i64 (y.2 : Nat)] 165) (.cells #[.int .i64 x.1.addr, .int .i64 x.1.size, .bool x.1.free, .int .i64 (x.2 : Nat)] 165)
      have l3 := Nat.lt_of_lt_of_le hlt hW.size
      have HWb := hide' hW
      generalize ((w.alloc (.cells #[.int .i64 y.1.addr, .int .i64 y.1.size, .bool y.1.free, .int .i64 (y.2 : Nat)] 165)).alloc (.cells #[.int .i64 x.1.addr, .int .i64 x.1.size, .bool x.1.free, .int .i64 (x.2 : Nat)] 165)).drew = W at *
      have HX := hide' (HC.out y.1 x.1)
      clear HC hW
      go_region_held3 (fun w' => w'.cell? ⟨h, 0, none⟩ = Option.some (.func (.func nf) #[] cb) ∧ w'.cell? ⟨w.heap.size + 1, 0, none⟩ = Option.some (.int .i64 x.1.addr) ∧ w'.cell? ⟨w.heap.size + 1, 1, none⟩ = Option.some (.int .i64 x.1.size) ∧ w'.cell? ⟨w.heap.size + 1, 2, none⟩ = Option.some (.bool x.1.free) ∧ w'.cell? ⟨w.heap.size, 0, none⟩ = Option.some (.int .i64 y.1.addr) ∧ w'.cell? ⟨w.heap.size, 1, none⟩ = Option.some (.int .i64 y.1.size) ∧ w'.cell? ⟨w.heap.size, 2, none⟩ = Option.some (.bool y.1.free)) (first | go_keep | exact ⟨k0, k1, k2, k3, k4, k5, k6⟩) ((refine (HX.out W.drew HWb.out.drew).mono ?_; rintro e w2 ⟨rfl, b2⟩; have k0 := (b2.cell (p := ⟨h, 0, none⟩) l3).trans s0; have k1 := (b2.cell (p := ⟨w.heap.size + 1, 0, none⟩) l2).trans s1; have k2 := (b2.cell (p := ⟨w.heap.size + 1, 1, none⟩) l2).trans s2; have k3 := (b2.cell (p := ⟨w.heap.size + 1, 2, none⟩) l2).trans s3; have k4 := (b2.cell (p := ⟨w.heap.size, 0, none⟩) l1).trans s4; have k5 := (b2.cell (p := ⟨w.heap.size, 1, none⟩) l1).trans s5; have k6 := (b2.cell (p := ⟨w.heap.size, 2, none⟩) l1).trans s6))
      have b3 := hide' (HWb.out.drew.trans (b2.mono HWb.out.size))
      clear b2 k0 k1 k2 k3 k4 k5 k6 s0 s1 s2 s3 s4 s5 s6
      go_wp2
      go_ret
      exact ⟨rfl, b3.out⟩
  · rw [if_neg ht]
    go_enter Try.func118, Try.ntmps118
    go_wp2_with fail
    go_region
    all_goals go_wp2_with fail
    · have hW := bel2 w (.cells #[.int .i64 x.1.addr, .int .i64 x.1.size, .bool x.1.free, .int .i64 (x.2 : Nat)] 165) (.cells #[.int .i64 y.1.addr, .int .i64 y.1.size, .bool y.1.free, .int .i64 (y.2 : Nat)] 165)
      have s0 : ((w.alloc (.cells #[.int .i64 x.1.addr, .int .i64 x.1.size, .bool x.1.free, .int .i64 (x.2 : Nat)] 165)).alloc (.cells #[.int .i64 y.1.addr, .int .i64 y.1.size, .bool y.1.free, .int .i64 (y.2 : Nat)] 165)).drew.cell? ⟨h, 0, none⟩ = Option.some (.func (.func nf) #[] cb) := (hW.cell (p := ⟨h, 0, none⟩) hlt).trans c0
      have s1 : ((w.alloc (.cells #[.int .i64 x.1.addr, .int .i64 x.1.size, .bool x.1.free, .int .i64 (x.2 : Nat)] 165)).alloc (.cells #[.int .i64 y.1.addr, .int .i64 y.1.size, .bool y.1.free, .int .i64 (y.2 : Nat)] 165)).drew.cell? ⟨w.heap.size, 0, none⟩ = Option.some (.int .i64 x.1.addr) := new_fst w _ _ 0 _ rfl
      have s2 : ((w.alloc (.cells #[.int .i64 x.1.addr, .int .i64 x.1.size, .bool x.1.free, .int .i64 (x.2 : Nat)] 165)).alloc (.cells #[.int .i64 y.1.addr, .int .i64 y.1.size, .bool y.1.free, .int .i64 (y.2 : Nat)] 165)).drew.cell? ⟨w.heap.size, 1, none⟩ = Option.some (.int .i64 x.1.size) := new_fst w _ _ 1 _ rfl
      have s3 : ((w.alloc (.cells #[.int .i64 x.1.addr, .int .i64 x.1.size, .bool x.1.free, .int .i64 (x.2 : Nat)] 165)).alloc (.cells #[.int .i64 y.1.addr, .int .i64 y.1.size, .bool y.1.free, .int .i64 (y.2 : Nat)] 165)).drew.cell? ⟨w.heap.size, 2, none⟩ = Option.some (.bool x.1.free) := new_fst w _ _ 2 _ rfl
      have s4 : ((w.alloc (.cells #[.int .i64 x.1.addr, .int .i64 x.1.size, .bool x.1.free, .int .i64 (x.2 : Nat)] 165)).alloc (.cells #[.int .i64 y.1.addr, .int .i64 y.1.size, .bool y.1.free, .int .i64 (y.2 : Nat)] 165)).drew.cell? ⟨w.heap.size + 1, 0, none⟩ = Option.some (.int .i64 y.1.addr) := new_snd w _ _ 0 _ rfl
      have s5 : ((w.alloc (.cells #[.int .i64 x.1.addr, .int .i64 x.1.size, .bool x.1.free, .int .i64 (x.2 : Nat)] 165)).alloc (.cells #[.int .i64 y.1.addr, .int .i64 y.1.size, .bool y.1.free, .int .i64 (y.2 : Nat)] 165)).drew.cell? ⟨w.heap.size + 1, 1, none⟩ = Option.some (.int .i64 y.1.size) := new_snd w _ _ 1 _ rfl
      have s6 : ((w.alloc (.cells #[.int .i64 x.1.addr, .int .i64 x.1.size, .bool x.1.free, .int .i64 (x.2 : Nat)] 165)).alloc (.cells #[.int .i64 y.1.addr, .int .i64 y.1.size, .bool y.1.free, .int .i64 (y.2 : Nat)] 165)).drew.cell? ⟨w.heap.size + 1, 2, none⟩ = Option.some (.bool y.1.free) := new_snd w _ _ 2 _ rfl
      have l1 := new_lt1 w (.cells #[.int .i64 x.1.addr, .int .i64 x.1.size, .bool x.1.free, .int .i64 (x.2 : Nat)] 165) (.cells #[.int .i64 y.1.addr, .int .i64 y.1.size, .bool y.1.free, .int .i64 (y.2 : Nat)] 165)
      have l2 := new_lt2 w (.cells #[.int .i64 x.1.addr, .int .i64 x.1.size, .bool x.1.free, .int .i64 (x.2 : Nat)] 165) (.cells #[.int .i64 y.1.addr, .int .i64 y.1.size, .bool y.1.free, .int .i64 (y.2 : Nat)] 165)
      have l3 := Nat.lt_of_lt_of_le hlt hW.size
      have HWb := hide' hW
      generalize ((w.alloc (.cells #[.int .i64 x.1.addr, .int .i64 x.1.size, .bool x.1.free, .int .i64 (x.2 : Nat)] 165)).alloc (.cells #[.int .i64 y.1.addr, .int .i64 y.1.size, .bool y.1.free, .int .i64 (y.2 : Nat)] 165)).drew = W at *
      have HX := hide' (HC.out x.1 y.1)
      clear HC hW
      go_region_held3 (fun w' => w'.cell? ⟨h, 0, none⟩ = Option.some (.func (.func nf) #[] cb) ∧ w'.cell? ⟨w.heap.size, 0, none⟩ = Option.some (.int .i64 x.1.addr) ∧ w'.cell? ⟨w.heap.size, 1, none⟩ = Option.some (.int .i64 x.1.size) ∧ w'.cell? ⟨w.heap.size, 2, none⟩ = Option.some (.bool x.1.free) ∧ w'.cell? ⟨w.heap.size + 1, 0, none⟩ = Option.some (.int .i64 y.1.addr) ∧ w'.cell? ⟨w.heap.size + 1, 1, none⟩ = Option.some (.int .i64 y.1.size) ∧ w'.cell? ⟨w.heap.size + 1, 2, none⟩ = Option.some (.bool y.1.free)) (first | go_keep | exact ⟨k0, k1, k2, k3, k4, k5, k6⟩) ((refine (HX.out W.drew HWb.out.drew).mono ?_; rintro e w2 ⟨rfl, b2⟩; have k0 := (b2.cell (p := ⟨h, 0, none⟩) l3).trans s0; have k1 := (b2.cell (p := ⟨w.heap.size, 0, none⟩) l1).trans s1; have k2 := (b2.cell (p := ⟨w.heap.size, 1, none⟩) l1).trans s2; have k3 := (b2.cell (p := ⟨w.heap.size, 2, none⟩) l1).trans s3; have k4 := (b2.cell (p := ⟨w.heap.size + 1, 0, none⟩) l2).trans s4; have k5 := (b2.cell (p := ⟨w.heap.size + 1, 1, none⟩) l2).trans s5; have k6 := (b2.cell (p := ⟨w.heap.size + 1, 2, none⟩) l2).trans s6))
      have b3 := hide' (HWb.out.drew.trans (b2.mono HWb.out.size))
      clear b2 k0 k1 k2 k3 k4 k5 k6 s0 s1 s2 s3 s4 s5 s6
      go_wp2
      go_ret
      exact ⟨rfl, b3.out⟩
    · have hW := bel2 w (.cells #[.int .i64 y.1.addr, .int .i64 y.1.size, .bool y.1.free, .int .i64 (y.2 : Nat)] 165) (.cells #[.int .i64 x.1.addr, .int .i64 x.1.size, .bool x.1.free, .int .i64 (x.2 : Nat)] 165)
      have s0 : ((w.alloc (.cells #[.int .i64 y.1.addr, .int .i64 y.1.size, .bool y.1.free, .int .i64 (y.2 : Nat)] 165)).alloc (.cells #[.int .i64 x.1.addr, .int .i64 x.1.size, .bool x.1.free, .int .i64 (x.2 : Nat)] 165)).drew.cell? ⟨h, 0, none⟩ = Option.some (.func (.func nf) #[] cb) := (hW.cell (p := ⟨h, 0, none⟩) hlt).trans c0
      have s1 : ((w.alloc (.cells #[.int .i64 y.1.addr, .int .i64 y.1.size, .bool y.1.free, .int .i64 (y.2 : Nat)] 165)).alloc (.cells #[.int .i64 x.1.addr, .int .i64 x.1.size, .bool x.1.free, .int .i64 (x.2 : Nat)] 165)).drew.cell? ⟨w.heap.size + 1, 0, none⟩ = Option.some (.int .i64 x.1.addr) := new_snd w _ _ 0 _ rfl
      have s2 : ((w.alloc (.cells #[.int .i64 y.1.addr, .int .i64 y.1.size, .bool y.1.free, .int .i64 (y.2 : Nat)] 165)).alloc (.cells #[.int .i64 x.1.addr, .int .i64 x.1.size, .bool x.1.free, .int .i64 (x.2 : Nat)] 165)).drew.cell? ⟨w.heap.size + 1, 1, none⟩ = Option.some (.int .i64 x.1.size) := new_snd w _ _ 1 _ rfl
      have s3 : ((w.alloc (.cells #[.int .i64 y.1.addr, .int .i64 y.1.size, .bool y.1.free, .int .i64 (y.2 : Nat)] 165)).alloc (.cells #[.int .i64 x.1.addr, .int .i64 x.1.size, .bool x.1.free, .int .i64 (x.2 : Nat)] 165)).drew.cell? ⟨w.heap.size + 1, 2, none⟩ = Option.some (.bool x.1.free) := new_snd w _ _ 2 _ rfl
      have s4 : ((w.alloc (.cells #[.int .i64 y.1.addr, .int .i64 y.1.size, .bool y.1.free, .int .i64 (y.2 : Nat)] 165)).alloc (.cells #[.int .i64 x.1.addr, .int .i64 x.1.size, .bool x.1.free, .int .i64 (x.2 : Nat)] 165)).drew.cell? ⟨w.heap.size, 0, none⟩ = Option.some (.int .i64 y.1.addr) := new_fst w _ _ 0 _ rfl
      have s5 : ((w.alloc (.cells #[.int .i64 y.1.addr, .int .i64 y.1.size, .bool y.1.free, .int .i64 (y.2 : Nat)] 165)).alloc (.cells #[.int .i64 x.1.addr, .int .i64 x.1.size, .bool x.1.free, .int .i64 (x.2 : Nat)] 165)).drew.cell? ⟨w.heap.size, 1, none⟩ = Option.some (.int .i64 y.1.size) := new_fst w _ _ 1 _ rfl
      have s6 : ((w.alloc (.cells #[.int .i64 y.1.addr, .int .i64 y.1.size, .bool y.1.free, .int .i64 (y.2 : Nat)] 165)).alloc (.cells #[.int .i64 x.1.addr, .int .i64 x.1.size, .bool x.1.free, .int .i64 (x.2 : Nat)] 165)).drew.cell? ⟨w.heap.size, 2, none⟩ = Option.some (.bool y.1.free) := new_fst w _ _ 2 _ rfl
      have l1 := new_lt1 w (.cells #[.int .i64 y.1.addr, .int .i64 y.1.size, .bool y.1.free, .int .i64 (y.2 : Nat)] 165) (.cells #[.int .i64 x.1.addr, .int .i64 x.1.size, .bool x.1.free, .int .i64 (x.2 : Nat)] 165)
      have l2 := new_lt2 w (.cells #[.int .i64 y.1.addr, .int .i64 y.1.size, .bool y.1.free, .int .i64 (y.2 : Nat)] 165) (.cells #[.int .i64 x.1.addr, .int .i64 x.1.size, .bool x.1.free, .int .i64 (x.2 : Nat)] 165)
      have l3 := Nat.lt_of_lt_of_le hlt hW.size
      have HWb := hide' hW
      generalize ((w.alloc (.cells #[.int .i64 y.1.addr, .int .i64 y.1.size, .bool y.1.free, .int .i64 (y.2 : Nat)] 165)).alloc (.cells #[.int .i64 x.1.addr, .int .i64 x.1.size, .bool x.1.free, .int .i64 (x.2 : Nat)] 165)).drew = W at *
      have HX := hide' (HC.out x.1 y.1)
      clear HC hW
      go_region_held3 (fun w' => w'.cell? ⟨h, 0, none⟩ = Option.some (.func (.func nf) #[] cb) ∧ w'.cell? ⟨w.heap.size + 1, 0, none⟩ = Option.some (.int .i64 x.1.addr) ∧ w'.cell? ⟨w.heap.size + 1, 1, none⟩ = Option.some (.int .i64 x.1.size) ∧ w'.cell? ⟨w.heap.size + 1, 2, none⟩ = Option.some (.bool x.1.free) ∧ w'.cell? ⟨w.heap.size, 0, none⟩ = Option.some (.int .i64 y.1.addr) ∧ w'.cell? ⟨w.heap.size, 1, none⟩ = Option.some (.int .i64 y.1.size) ∧ w'.cell? ⟨w.heap.size, 2, none⟩ = Option.some (.bool y.1.free)) (first | go_keep | exact ⟨k0, k1, k2, k3, k4, k5, k6⟩) ((refine (HX.out W.drew HWb.out.drew).mono ?_; rintro e w2 ⟨rfl, b2⟩; have k0 := (b2.cell (p := ⟨h, 0, none⟩) l3).trans s0; have k1 := (b2.cell (p := ⟨w.heap.size + 1, 0, none⟩) l2).trans s1; have k2 := (b2.cell (p := ⟨w.heap.size + 1, 1, none⟩) l2).trans s2; have k3 := (b2.cell (p := ⟨w.heap.size + 1, 2, none⟩) l2).trans s3; have k4 := (b2.cell (p := ⟨w.heap.size, 0, none⟩) l1).trans s4; have k5 := (b2.cell (p := ⟨w.heap.size, 1, none⟩) l1).trans s5; have k6 := (b2.cell (p := ⟨w.heap.size, 2, none⟩) l1).trans s6))
      have b3 := hide' (HWb.out.drew.trans (b2.mono HWb.out.size))
      clear b2 k0 k1 k2 k3 k4 k5 k6 s0 s1 s2 s3 s4 s5 s6
      go_wp2
      go_ret
      exact ⟨rfl, b3.out⟩
end HB
end Go.Proofs.Ytfeehnfpfheojaa
