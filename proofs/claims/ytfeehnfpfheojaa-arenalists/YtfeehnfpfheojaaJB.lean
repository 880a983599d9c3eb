import Derived.Test.YtfeehnfpfheojaaJA
import Derived.Deep.QuietTactic
import Derived.Deep.RegionHeld3
import Derived.Test.YtfeehnfpfheojaaHpB
import Derived.Deep.RegionLaw
import Derived.Test.YtfeehnfpfheojaaHpR
import Derived.Test.YtfeehnfpfheojaaGiv
import Derived.Test.YtfeehnfpfheojaaNew
set_option linter.unusedVariables false
set_option linter.unusedSimpArgs false
namespace Go.Proofs.Ytfeehnfpfheojaa
open Go.RowKit Go.Sort
namespace HI
open Hp
/-- WHAT THE ORDER'S FUNCTION TELLS: K holds of the world, and stays while the blocks of A stay -/
structure Less (nf : Nat) (cb : Array Value) (lt : Int → Int → Bool) (A : Nat → Prop) (K : World → Prop) : Prop where
  enters : ∀ args w, (callFunc nf args).run Try.prog w = .ok (.enter nf args) w
  call : ∀ x y w, K w → Calls Try.prog nf (#[.int .i64 x, .int .i64 y] ++ cb) w fun e w' => e = .returned (.bool (lt x y)) ∧ Below w.heap.size w w'
  stay : ∀ S w w', K w → Turn S w w' → (∀ j, A j → ¬ S j) → K w'
  old : ∀ w j, K w → A j → j < w.heap.size
variable {nf : Nat} {cb : Array Value} {lt : Int → Int → Bool} {A : Nat → Prop} {K : World → Prop}
theorem Less.below (N : Less nf cb lt A K) {w w' : World} (h : K w) (b : Below w.heap.size w w') : K w' := N.stay (fun _ => False) w w' h (turn_below b) (fun _ _ q => q)
variable {B h : Nat} {ao : Option Addr} {cap : Nat} {zs : List (Int × Nat)} {cnt : Nat} {w w' : World}
set_option maxRecDepth 100000 in
set_option maxHeartbeats 4000000 in
theorem new_fst (w : World) (o2 : Obj) (cs : Array Value) {t : TypeId} (r : Nat) (v : Value) (hv : cs[r]? = Option.some v) : ((w.alloc (.cells cs t)).alloc o2).drew.cell? ⟨w.heap.size, r, none⟩ = Option.some v := by
  show ((w.alloc (.cells cs t)).alloc o2).cell? ⟨w.heap.size, r, none⟩ = _
  rw [World.cell?_of_block (Below.heap_alloc (w.alloc (.cells cs t)) o2 _ (by simp)), Lib.cell_of_heap (heap_alloc_new w _), hv]
theorem new_snd (w : World) (o1 : Obj) (cs : Array Value) {t : TypeId} (r : Nat) (v : Value) (hv : cs[r]? = Option.some v) : ((w.alloc o1).alloc (.cells cs t)).drew.cell? ⟨w.heap.size + 1, r, none⟩ = Option.some v := by
  show ((w.alloc o1).alloc (.cells cs t)).cell? ⟨w.heap.size + 1, r, none⟩ = _
  have := heap_alloc_new (w.alloc o1) (.cells cs t)
  rw [show (w.alloc o1).heap.size = w.heap.size + 1 by simp] at this
  rw [Lib.cell_of_heap this, hv]
theorem new_lt1 (w : World) (o1 o2 : Obj) : w.heap.size < ((w.alloc o1).alloc o2).drew.heap.size := by show w.heap.size < ((w.alloc o1).alloc o2).heap.size; simp; omega
theorem new_lt2 (w : World) (o1 o2 : Obj) : w.heap.size + 1 < ((w.alloc o1).alloc o2).drew.heap.size := by show w.heap.size + 1 < ((w.alloc o1).alloc o2).heap.size; simp
theorem bel2 (w : World) (o1 o2 : Obj) : Below w.heap.size w ((w.alloc o1).alloc o2).drew := (((Below.refl _ _).alloc (Nat.le_refl _) _).alloc (by simp) _).drew
set_option maxRecDepth 100000 in
set_option maxHeartbeats 4000000 in
theorem ahead_any (N : Less nf cb lt A K) (hK : K w) (i j : Nat) (x y : Int × Nat) (H : Hm B h (.func (.func nf) #[] cb) ao cap zs cnt w) (hi : zs[i]? = Option.some x) (hj : zs[j]? = Option.some y) :
    Calls Try.prog 104 #[.pointer (Option.some ⟨h, 0, none⟩), .int .i64 (i : Nat), .int .i64 (j : Nat)] w fun e w' => e = .returned (.bool (ahd lt x y)) ∧ Below w.heap.size w w' := by
  have li : i < zs.length := (List.getElem?_eq_some_iff.1 hi).1
  have lj : j < zs.length := (List.getElem?_eq_some_iff.1 hj).1
  obtain ⟨g, rfl, hc, hg, hgh⟩ := H.some (by omega)
  have c0 := H.c0
  have c1 := H.c1
  have hlt := H.lt
  have hent := N.enters
  have HC := hide' (fun x y w1 (b : Below w.heap.size w w1) => N.call x y w1 (N.below hK b))
  obtain ⟨x0, x1⟩ := H.item hi
  obtain ⟨y0, y1⟩ := H.item hj
  have n0 := World.new_ne w _ c0
  have n1 := World.new_ne w _ c1
  have nx0 := World.new_ne w _ x0
  have nx1 := World.new_ne w _ x1
  have ny0 := World.new_ne w _ y0
  have ny1 := World.new_ne w _ y1
  clear H hi hj N hK
  unfold ahd
  by_cases ht : x.2 < y.2
  · rw [if_pos ht]
    go_enter Try.func104, Try.ntmps104
    go_wp2_with fail
    go_region
    all_goals go_wp2_with fail
    · have hW := bel2 w (.cells #[.int .i64 x.1, .int .i64 (x.2 : Nat)] 155) (.cells #[.int .i64 y.1, .int .i64 (y.2 : Nat)] 155)
      have s0 : ((w.alloc (.cells #[.int .i64 x.1, .int .i64 (x.2 : Nat)] 155)).alloc (.cells #[.int .i64 y.1, .int .i64 (y.2 : Nat)] 155)).drew.cell? ⟨h, 0, none⟩ = Option.some (.func (.func nf) #[] cb) := (hW.cell (p := ⟨h, 0, none⟩) hlt).trans c0
      have s1 : ((w.alloc (.cells #[.int .i64 x.1, .int .i64 (x.2 : Nat)] 155)).alloc (.cells #[.int .i64 y.1, .int .i64 (y.2 : Nat)] 155)).drew.cell? ⟨w.heap.size, 0, none⟩ = Option.some (.int .i64 x.1) := new_fst w _ _ 0 _ rfl
      have s2 : ((w.alloc (.cells #[.int .i64 x.1, .int .i64 (x.2 : Nat)] 155)).alloc (.cells #[.int .i64 y.1, .int .i64 (y.2 : Nat)] 155)).drew.cell? ⟨w.heap.size + 1, 0, none⟩ = Option.some (.int .i64 y.1) := new_snd w _ _ 0 _ rfl
      have l1 := new_lt1 w (.cells #[.int .i64 x.1, .int .i64 (x.2 : Nat)] 155) (.cells #[.int .i64 y.1, .int .i64 (y.2 : Nat)] 155)
      have l2 := new_lt2 w (.cells #[.int .i64 x.1, .int .i64 (x.2 : Nat)] 155) (.cells #[.int .i64 y.1, .int .i64 (y.2 : Nat)] 155)
      have l3 := Nat.lt_of_lt_of_le hlt hW.size
      have HWb := hide' hW
      generalize ((w.alloc (.cells #[.int .i64 x.1, .int .i64 (x.2 : Nat)] 155)).alloc (.cells #[.int .i64 y.1, .int .i64 (y.2 : Nat)] 155)).drew = W at *
      have HX := hide' (HC.out y.1 x.1)
      clear HC hW
      go_region_held3 (fun w' => w'.cell? ⟨h, 0, none⟩ = Option.some (.func (.func nf) #[] cb) ∧ w'.cell? ⟨w.heap.size, 0, none⟩ = Option.some (.int .i64 x.1) ∧ w'.cell? ⟨w.heap.size + 1, 0, none⟩ = Option.some (.int .i64 y.1)) (first | go_keep | exact ⟨k0, k1, k2⟩) ((refine (HX.out W.drew HWb.out.drew).mono ?_; rintro e w2 ⟨rfl, b2⟩; have k0 := (b2.cell (p := ⟨h, 0, none⟩) l3).trans s0; have k1 := (b2.cell (p := ⟨w.heap.size, 0, none⟩) l1).trans s1; have k2 := (b2.cell (p := ⟨w.heap.size + 1, 0, none⟩) l2).trans s2))
      have b3 := hide' (HWb.out.drew.trans (b2.mono HWb.out.size))
      clear b2 k0 k1 k2 s0 s1 s2
      go_wp2
      go_ret
      exact ⟨rfl, b3.out⟩
    · have hW := bel2 w (.cells #[.int .i64 y.1, .int .i64 (y.2 : Nat)] 155) (.cells #[.int .i64 x.1, .int .i64 (x.2 : Nat)] 155)
      have s0 : ((w.alloc (.cells #[.int .i64 y.1, .int .i64 (y.2 : Nat)] 155)).alloc (.cells #[.int .i64 x.1, .int .i64 (x.2 : Nat)] 155)).drew.cell? ⟨h, 0, none⟩ = Option.some (.func (.func nf) #[] cb) := (hW.cell (p := ⟨h, 0, none⟩) hlt).trans c0
      have s1 : ((w.alloc (.cells #[.int .i64 y.1, .int .i64 (y.2 : Nat)] 155)).alloc (.cells #[.int .i64 x.1, .int .i64 (x.2 : Nat)] 155)).drew.cell? ⟨w.heap.size + 1, 0, none⟩ = Option.some (.int .i64 x.1) := new_snd w _ _ 0 _ rfl
      have s2 : ((w.alloc (.cells #[.int .i64 y.1, .int .i64 (y.2 : Nat)] 155)).alloc (.cells #[.int .i64 x.1, .int .i64 (x.2 : Nat)] 155)).drew.cell? ⟨w.heap.size, 0, none⟩ = Option.some (.int .i64 y.1) := new_fst w _ _ 0 _ rfl
      have l1 := new_lt1 w (.cells #[.int .i64 y.1, .int .i64 (y.2 : Nat)] 155) (.cells #[.int .i64 x.1, .int .i64 (x.2 : Nat)] 155)
      have l2 := new_lt2 w (.cells #[.int .i64 y.1, .int .i64 (y.2 : Nat)] 155) (.cells #[.int .i64 x.1, .int .i64 (x.2 : Nat)] 155)
      have l3 := Nat.lt_of_lt_of_le hlt hW.size
      have HWb := hide' hW
      generalize ((w.alloc (.cells #[.int .i64 y.1, .int .i64 (y.2 : Nat)] 155)).alloc (.cells #[.int .i64 x.1, .int .i64 (x.2 : Nat)] 155)).drew = W at *
      have HX := hide' (HC.out y.1 x.1)
      clear HC hW
      go_region_held3 (fun w' => w'.cell? ⟨h, 0, none⟩ = Option.some (.func (.func nf) #[] cb) ∧ w'.cell? ⟨w.heap.size + 1, 0, none⟩ = Option.some (.int .i64 x.1) ∧ w'.cell? ⟨w.heap.size, 0, none⟩ = Option.some (.int .i64 y.1)) (first | go_keep | exact ⟨k0, k1, k2⟩) ((refine (HX.out W.drew HWb.out.drew).mono ?_; rintro e w2 ⟨rfl, b2⟩; have k0 := (b2.cell (p := ⟨h, 0, none⟩) l3).trans s0; have k1 := (b2.cell (p := ⟨w.heap.size + 1, 0, none⟩) l2).trans s1; have k2 := (b2.cell (p := ⟨w.heap.size, 0, none⟩) l1).trans s2))
      have b3 := hide' (HWb.out.drew.trans (b2.mono HWb.out.size))
      clear b2 k0 k1 k2 s0 s1 s2
      go_wp2
      go_ret
      exact ⟨rfl, b3.out⟩
  · rw [if_neg ht]
    go_enter Try.func104, Try.ntmps104
    go_wp2_with fail
    go_region
    all_goals go_wp2_with fail
    · have hW := bel2 w (.cells #[.int .i64 x.1, .int .i64 (x.2 : Nat)] 155) (.cells #[.int .i64 y.1, .int .i64 (y.2 : Nat)] 155)
      have s0 : ((w.alloc (.cells #[.int .i64 x.1, .int .i64 (x.2 : Nat)] 155)).alloc (.cells #[.int .i64 y.1, .int .i64 (y.2 : Nat)] 155)).drew.cell? ⟨h, 0, none⟩ = Option.some (.func (.func nf) #[] cb) := (hW.cell (p := ⟨h, 0, none⟩) hlt).trans c0
      have s1 : ((w.alloc (.cells #[.int .i64 x.1, .int .i64 (x.2 : Nat)] 155)).alloc (.cells #[.int .i64 y.1, .int .i64 (y.2 : Nat)] 155)).drew.cell? ⟨w.heap.size, 0, none⟩ = Option.some (.int .i64 x.1) := new_fst w _ _ 0 _ rfl
      have s2 : ((w.alloc (.cells #[.int .i64 x.1, .int .i64 (x.2 : Nat)] 155)).alloc (.cells #[.int .i64 y.1, .int .i64 (y.2 : Nat)] 155)).drew.cell? ⟨w.heap.size + 1, 0, none⟩ = Option.some (.int .i64 y.1) := new_snd w _ _ 0 _ rfl
      have l1 := new_lt1 w (.cells #[.int .i64 x.1, .int .i64 (x.2 : Nat)] 155) (.cells #[.int .i64 y.1, .int .i64 (y.2 : Nat)] 155)
      have l2 := new_lt2 w (.cells #[.int .i64 x.1, .int .i64 (x.2 : Nat)] 155) (.cells #[.int .i64 y.1, .int .i64 (y.2 : Nat)] 155)
      have l3 := Nat.lt_of_lt_of_le hlt hW.size
      have HWb := hide' hW
      generalize ((w.alloc (.cells #[.int .i64 x.1, .int .i64 (x.2 : Nat)] 155)).alloc (.cells #[.int .i64 y.1, .int .i64 (y.2 : Nat)] 155)).drew = W at *
      have HX := hide' (HC.out x.1 y.1)
      clear HC hW
      go_region_held3 (fun w' => w'.cell? ⟨h, 0, none⟩ = Option.some (.func (.func nf) #[] cb) ∧ w'.cell? ⟨w.heap.size, 0, none⟩ = Option.some (.int .i64 x.1) ∧ w'.cell? ⟨w.heap.size + 1, 0, none⟩ = Option.some (.int .i64 y.1)) (first | go_keep | exact ⟨k0, k1, k2⟩) ((refine (HX.out W.drew HWb.out.drew).mono ?_; rintro e w2 ⟨rfl, b2⟩; have k0 := (b2.cell (p := ⟨h, 0, none⟩) l3).trans s0; have k1 := (b2.cell (p := ⟨w.heap.size, 0, none⟩) l1).trans s1; have k2 := (b2.cell (p := ⟨w.heap.size + 1, 0, none⟩) l2).trans s2))
      have b3 := hide' (HWb.out.drew.trans (b2.mono HWb.out.size))
      clear b2 k0 k1 k2 s0 s1 s2
      go_wp2
      go_ret
      exact ⟨rfl, b3.out⟩
    · have hW := bel2 w (.cells #[.int .i64 y.1, .int .i64 (y.2 : Nat)] 155) (.cells #[.int .i64 x.1, .int .i64 (x.2 : Nat)] 155)
      have s0 : ((w.alloc (.cells #[.int .i64 y.1, .int .i64 (y.2 : Nat)] 155)).alloc (.cells #[.int .i64 x.1, .int .i64 (x.2 : Nat)] 155)).drew.cell? ⟨h, 0, none⟩ = Option.some (.func (.func nf) #[] cb) := (hW.cell (p := ⟨h, 0, none⟩) hlt).trans c0
      have s1 : ((w.alloc (.cells #[.int .i64 y.1, .int .i64 (y.2 : Nat)] 155)).alloc (.cells #[.int .i64 x.1, .int .i64 (x.2 : Nat)] 155)).drew.cell? ⟨w.heap.size + 1, 0, none⟩ = Option.some (.int .i64 x.1) := new_snd w _ _ 0 _ rfl
      have s2 : ((w.alloc (.cells #[.int .i64 y.1, .int .i64 (y.2 : Nat)] 155)).alloc (.cells #[.int .i64 x.1, .int .i64 (x.2 : Nat)] 155)).drew.cell? ⟨w.heap.size, 0, none⟩ = Option.some (.int .i64 y.1) := new_fst w _ _ 0 _ rfl
      have l1 := new_lt1 w (.cells #[.int .i64 y.1, .int .i64 (y.2 : Nat)] 155) (.cells #[.int .i64 x.1, .int .i64 (x.2 : Nat)] 155)
      have l2 := new_lt2 w (.cells #[.int .i64 y.1, .int .i64 (y.2 : Nat)] 155) (.cells #[.int .i64 x.1, .int .i64 (x.2 : Nat)] 155)
      have l3 := Nat.lt_of_lt_of_le hlt hW.size
      have HWb := hide' hW
      generalize ((w.alloc (.cells #[.int .i64 y.1, .int .i64 (y.2 : Nat)] 155)).alloc (.cells #[.int .i64 x.1, .int .i64 (x.2 : Nat)] 155)).drew = W at *
      have HX := hide' (HC.out x.1 y.1)
      clear HC hW
      go_region_held3 (fun w' => w'.cell? ⟨h, 0, none⟩ = Option.some (.func (.func nf) #[] cb) ∧ w'.cell? ⟨w.heap.size + 1, 0, none⟩ = Option.some (.int .i64 x.1) ∧ w'.cell? ⟨w.heap.size, 0, none⟩ = Option.some (.int .i64 y.1)) (first | go_keep | exact ⟨k0, k1, k2⟩) ((refine (HX.out W.drew HWb.out.drew).mono ?_; rintro e w2 ⟨rfl, b2⟩; have k0 := (b2.cell (p := ⟨h, 0, none⟩) l3).trans s0; have k1 := (b2.cell (p := ⟨w.heap.size + 1, 0, none⟩) l2).trans s1; have k2 := (b2.cell (p := ⟨w.heap.size, 0, none⟩) l1).trans s2))
      have b3 := hide' (HWb.out.drew.trans (b2.mono HWb.out.size))
      clear b2 k0 k1 k2 s0 s1 s2
      go_wp2
      go_ret
      exact ⟨rfl, b3.out⟩
end HI
end Go.Proofs.Ytfeehnfpfheojaa
set_option linter.unusedVariables false
set_option linter.unusedSimpArgs false
namespace Go.Proofs.Ytfeehnfpfheojaa
open Go.RowKit Go.Sort
namespace HI
open Hp
variable {nf : Nat} {cb : Array Value} {lt : Int → Int → Bool} {A : Nat → Prop} {K : World → Prop}
variable {B h : Nat} {ao : Option Addr} {cap : Nat} {zs : List (Int × Nat)} {cnt : Nat} {w w' : World}
/-- what a sift leaves -/
structure Sift (lt : Int → Int → Bool) (B h : Nat) (fv : Value) (ao : Option Addr) (cap : Nat) (zs zs' : List (Int × Nat)) (cnt : Nat) (w wx : World) : Prop where
  hm : Hm B h fv ao cap zs' cnt wx
  perm : zs'.Perm zs
  turn : Turn (Own h ao) w wx
theorem Less.own (N : Less nf cb lt A K) (hK : K w) (hA : ∀ j, A j → ¬ Own h ao j) (t : Turn (Own h ao) w w') : K w' := N.stay _ w w' hK t hA
theorem tdiv_par (k : Nat) (h : 0 < k) : ((k : Int) - 1).tdiv 2 = ((par k : Nat) : Int) := by
  rw [Int.tdiv_eq_ediv_of_nonneg (by omega)]
  unfold par
  omega
set_option maxRecDepth 100000 in
set_option maxHeartbeats 4000000 in
theorem rise_any (N : Less nf cb lt A K) (k : Nat) (H : Hm B h (.func (.func nf) #[] cb) ao cap zs cnt w) (hK : K w) (hA : ∀ j, A j → ¬ Own h ao j) (hk : k < zs.length) (hl : zs.length ≤ 1099511627776) :
    Calls Try.prog 89 #[.pointer (Option.some ⟨h, 0, none⟩), .int .i64 (k : Nat)] w fun e w' => e = .returned (.tuple #[]) ∧ ∃ zs', Sift lt B h (.func (.func nf) #[] cb) ao cap zs zs' cnt w w' ∧ (SWO lt → Rise (ahd lt) zs k → Heap (ahd lt) zs') := by
  have HN := hide' N
  have HK := hide' hK
  have HA := hide' hA
  have Hl := hide' hl
  have HH := hide' H
  have Hk := hide' hk
  clear N hK hA hl H hk
  go_enter Try.func89, Try.ntmps89
  go_wp2_with fail
  go_loopw [1] (fun i wx => ∃ (q : Nat) (us : List (Int × Nat)), i = .int .i64 (q : Int) ∧ q < us.length ∧ Sift lt B h (.func (.func nf) #[] cb) ao cap zs us cnt w wx ∧ (SWO lt → Rise (ahd lt) zs k → Rise (ahd lt) us q)) (fun i _ => (intOf i).toNat)
  case atStart => exact ⟨k, zs, rfl, Hk.out, ⟨HH.out, .refl _, Turn.refl _ _⟩, fun _ r => r⟩
  case round =>
    obtain ⟨q, us, rfl, hq, hS, hR⟩ := hrel
    have hlen := hS.perm.length_eq
    by_cases h0 : q = 0
    · subst h0
      have K0 := hide' (And.intro hS hR)
      clear hS hR hlen hq
      go_wp2
      go_end0
      exact ⟨rfl, us, K0.out.1, fun s r => (K0.out.2 s r).top⟩
    · have hp : 0 < q := by omega
      have hpar : par q < q := by unfold par; omega
      have hu : us[q]? = Option.some us[q] := List.getElem?_eq_getElem hq
      have hv : us[par q]? = Option.some us[par q] := List.getElem?_eq_getElem (by omega)
      have hl' := Hl.out
      have HCa := hide' (ahead_any HN.out (HN.out.own HK.out HA.out hS.turn) q (par q) _ _ hS.hm hu hv)
      have e1 := tdiv_par q hp
      have e2 : wrap64 ((q : Int) - 1) = (q : Int) - 1 := by unfold wrap64; omega
      have e3 : wrap64 ((par q : Nat) : Int) = ((par q : Nat) : Int) := by unfold wrap64; omega
      have e4 : (0 : Int) < (q : Int) := by omega
      have Hq := hide' hq
      have HS := hide' hS
      have HR := hide' hR
      have Hpar := hide' hpar
      have Hhu := hide' hu
      have Hhv := hide' hv
      generalize hxq : us[q] = xq at *
      generalize hxp : us[par q] = xp at *
      clear hS hR hlen hq hpar hu hv hl' h0 hp hxq hxp
      cases hc : ahd lt xq xp
      · rw [hc] at HCa
        go_wp2_with fail
        refine HCa.out.mono ?_
        rintro e w2 ⟨rfl, b2⟩
        have K2 : Hid (Sift lt B h (.func (.func nf) #[] cb) ao cap zs us cnt w w2) := hide' ⟨HS.out.hm.kept (turn_below (S := fun _ => False) b2) (fun _ _ z => z), HS.out.perm, HS.out.turn.trans (turn_below b2)⟩
        clear b2 HCa
        go_wp2
        (try simp only [Exit.inBlock, Exit.then])
        refine bodyPost_ret (results_none rfl _ _ _) rfl ?_
        exact ⟨rfl, us, K2.out, fun s r => (HR.out s r).done (fun x y hx hy => by rw [Hhu.out] at hx; rw [Hhv.out] at hy; cases hx; cases hy; exact hc)⟩
      · rw [hc] at HCa
        go_wp2_with fail
        refine HCa.out.mono ?_
        rintro e w2 ⟨rfl, b2⟩
        have K2 : Hid (Sift lt B h (.func (.func nf) #[] cb) ao cap zs us cnt w w2) := hide' ⟨HS.out.hm.kept (turn_below (S := fun _ => False) b2) (fun _ _ z => z), HS.out.perm, HS.out.turn.trans (turn_below b2)⟩
        have HCs := hide' (swap_any q (par q) _ _ K2.out.hm Hhu.out Hhv.out)
        clear b2 HCa
        go_wp2_with fail
        refine HCs.out.mono ?_
        rintro e w3 ⟨rfl, h3, t3⟩
        have K3 : Hid (Sift lt B h (.func (.func nf) #[] cb) ao cap zs (swp us q (par q)) cnt w w3) := hide' ⟨h3, (swp_perm _ _ _).trans K2.out.perm, K2.out.turn.trans t3⟩
        clear h3 t3 HCs K2
        go_wp2
        exact ⟨⟨par q, swp us q (par q), rfl, by rw [swp_length]; have := Hq.out; have := Hpar.out; omega, K3.out, fun s r => (HR.out s r).step (swo_ahd s) (by omega) Hq.out Hhu.out Hhv.out hc⟩, by have := Hpar.out; show (par q : Int).toNat < (q : Int).toNat; omega⟩
end HI
end Go.Proofs.Ytfeehnfpfheojaa
set_option linter.unusedVariables false
set_option linter.unusedSimpArgs false
namespace Go.Proofs.Ytfeehnfpfheojaa
open Go.RowKit Go.Sort
namespace HI
open Hp
variable {nf : Nat} {cb : Array Value} {lt : Int → Int → Bool} {A : Nat → Prop} {K : World → Prop}
variable {B h : Nat} {ao : Option Addr} {cap : Nat} {zs : List (Int × Nat)} {cnt : Nat} {w w' : World}
set_option maxRecDepth 100000 in
set_option maxHeartbeats 4000000 in
theorem sink_any (N : Less nf cb lt A K) (k : Nat) (H : Hm B h (.func (.func nf) #[] cb) ao cap zs cnt w) (hK : K w) (hA : ∀ j, A j → ¬ Own h ao j) (hk : k < zs.length) (hl : zs.length ≤ 1099511627776) :
    Calls Try.prog 91 #[.pointer (Option.some ⟨h, 0, none⟩), .int .i64 (k : Nat)] w fun e w' => e = .returned (.tuple #[]) ∧ ∃ zs', Sift lt B h (.func (.func nf) #[] cb) ao cap zs zs' cnt w w' ∧ (SWO lt → Sink (ahd lt) zs k → Heap (ahd lt) zs') := by
  have HN := hide' N
  have HK := hide' hK
  have HA := hide' hA
  have Hl := hide' hl
  have HH := hide' H
  have Hk := hide' hk
  clear N hK hA hl H hk
  go_enter Try.func91, Try.ntmps91
  go_wp2_with fail
  go_loopw [1] (fun i wx => ∃ (q : Nat) (us : List (Int × Nat)), i = .int .i64 (q : Int) ∧ q < us.length ∧ Sift lt B h (.func (.func nf) #[] cb) ao cap zs us cnt w wx ∧ (SWO lt → Sink (ahd lt) zs k → Sink (ahd lt) us q)) (fun i _ => zs.length - (intOf i).toNat)
  case atStart => exact ⟨k, zs, rfl, Hk.out, ⟨HH.out, .refl _, Turn.refl _ _⟩, fun _ r => r⟩
  case round =>
    obtain ⟨q, us, rfl, hq, hS, hR⟩ := hrel
    have hlen := hS.perm.length_eq
    have hl' := Hl.out
    have e1 : wrap64 (2 * (q : Int)) = 2 * (q : Int) := by unfold wrap64; omega
    have e2 : wrap64 (2 * (q : Int) + 1) = 2 * (q : Int) + 1 := by unfold wrap64; omega
    have e3 : wrap64 (2 * (q : Int) + 2) = 2 * (q : Int) + 2 := by unfold wrap64; omega
    have HS := hide' hS
    have HR := hide' hR
    have Hq := hide' hq
    have Hlen := hide' hlen
    clear hS hR hlen hq hl'
    go_wp2_with fail
    simp only [e1, e2]
    go_loopw [4, 5] (fun f b wy => ∃ (f' b' : Nat), f = .int .i64 (f' : Int) ∧ b = .int .i64 (b' : Int) ∧ 2 * q + 1 ≤ b' ∧ b' ≤ 2 * q + 3 ∧ b' ≤ us.length + 2 * q + 1 ∧ Best lt us q f' b' ∧ Sift lt B h (.func (.func nf) #[] cb) ao cap zs us cnt w wy) (fun _ b _ => 2 * q + 3 - (intOf b).toNat)
    case atStart => exact ⟨q, 2 * q + 1, rfl, by go_num, by omega, by omega, by omega, Best.start us q Hq.out, HS.out⟩
    case round =>
      obtain ⟨f, b, rfl, rfl, hb1, hb2, hb3, hB, hS⟩ := hrel
      have hl' := Hl.out
      have hlen := Hlen.out
      have c1 := hS.hm.c1
      by_cases hin : b ≤ 2 * q + 2 ∧ b < us.length
      · obtain ⟨i1, i2⟩ := hin
        have d1 : (b : Int) ≤ 2 * (q : Int) + 2 := by omega
        have d2 : (b : Int) < (us.length : Int) := by omega
        have e5 : wrap64 ((b : Int) + 1) = (b : Int) + 1 := by unfold wrap64; omega
        obtain ⟨xq, hu⟩ : ∃ z, us[b]? = Option.some z := ⟨_, List.getElem?_eq_getElem i2⟩
        obtain ⟨xp, hv⟩ : ∃ z, us[f]? = Option.some z := ⟨_, List.getElem?_eq_getElem hB.lts⟩
        have HCa := hide' (ahead_any HN.out (HN.out.own HK.out HA.out hS.turn) b f _ _ hS.hm hu hv)
        have HB := hide' hB
        have HS2 := hide' hS
        have Hhu := hide' hu
        have Hhv := hide' hv
        have Hb1 := hide' hb1
        have Hi1 := hide' i1
        have Hi2 := hide' i2
        clear hB hS hu hv hb1 hb2 hb3 i1 i2 hl' hlen
        cases hc : ahd lt xq xp
        · rw [hc] at HCa
          go_wp2_with fail
          refine HCa.out.mono ?_
          rintro e w2 ⟨rfl, b2⟩
          have K2 : Hid (Sift lt B h (.func (.func nf) #[] cb) ao cap zs us cnt w w2) := hide' ⟨HS2.out.hm.kept (turn_below (S := fun _ => False) b2) (fun _ _ z => z), HS2.out.perm, HS2.out.turn.trans (turn_below b2)⟩
          clear b2 HCa c1
          go_wp2
          go_roundw
          case rel => exact ⟨f, b + 1, rfl, by go_num, by have := Hb1.out; omega, by have := Hi1.out; omega, by have := Hi2.out; omega, HB.out.stay Hhu.out Hhv.out hc, K2.out⟩
          case measure => rw [e5]; show 2 * q + 3 - ((b : Int) + 1).toNat < 2 * q + 3 - (b : Int).toNat; have := Hi1.out; omega
        · rw [hc] at HCa
          go_wp2_with fail
          refine HCa.out.mono ?_
          rintro e w2 ⟨rfl, b2⟩
          have K2 : Hid (Sift lt B h (.func (.func nf) #[] cb) ao cap zs us cnt w w2) := hide' ⟨HS2.out.hm.kept (turn_below (S := fun _ => False) b2) (fun _ _ z => z), HS2.out.perm, HS2.out.turn.trans (turn_below b2)⟩
          clear b2 HCa c1
          go_wp2
          go_roundw
          case rel => exact ⟨b, b + 1, rfl, by go_num, by have := Hb1.out; omega, by have := Hi1.out; omega, by have := Hi2.out; omega, HB.out.move (by have := Hb1.out; omega) (by have := Hb1.out; have := Hi1.out; unfold par; omega) Hhu.out Hhv.out hc, K2.out⟩
          case measure => rw [e5]; show 2 * q + 3 - ((b : Int) + 1).toNat < 2 * q + 3 - (b : Int).toNat; have := Hi1.out; omega
      · have hlo : ∀ c, 0 < c → c < us.length → par c = q → c < b := fun c h0 hc hp => by unfold par at hp; omega
        have Hlo := hide' hlo
        have HB := hide' hB
        have HS2 := hide' hS
        have hout : ¬ ((b : Int) ≤ 2 * (q : Int) + 2) ∨ ((b : Int) ≤ 2 * (q : Int) + 2 ∧ ¬ ((b : Int) < (us.length : Int))) := by omega
        by_cases hfq : f = q
        · have hfd : (f : Int) = (q : Int) := by omega
          clear hB hS hb1 hb2 hb3 hl' hlen hlo hin
          subst hfq
          clear hfd
          rcases hout with d1 | ⟨d1, d2⟩
          all_goals
            go_wp2
            (try simp only [Exit.inBlock, Exit.then])
            refine bodyPost_ret (results_none rfl _ _ _) rfl ?_
            exact ⟨rfl, us, HS2.out, fun s r => HB.out.done s (HR.out s r) Hlo.out⟩
        · have hfd : ¬ ((f : Int) = (q : Int)) := by omega
          have Hfq := hide' hfq
          have HCs := hide' (swap_any q f _ _ hS.hm (List.getElem?_eq_getElem Hq.out) (List.getElem?_eq_getElem hB.lts))
          have hqf : Hid (q < f) := by
            rcases hB.of with e | ⟨a, b', c⟩
            · exact absurd e hfq
            · exact (show q < f by unfold par at b'; omega)
          clear hB hS hb1 hb2 hb3 hl' hlen hlo hin hfq
          rcases hout with d1 | ⟨d1, d2⟩
          all_goals
            go_wp2_with fail
            refine HCs.out.mono ?_
            rintro e w3 ⟨rfl, h3, t3⟩
            have K3 : Hid (Sift lt B h (.func (.func nf) #[] cb) ao cap zs (swp us q f) cnt w w3) := hide' ⟨h3, (swp_perm _ _ _).trans HS2.out.perm, HS2.out.turn.trans t3⟩
            clear h3 t3 HCs
            go_wp2
            exact ⟨⟨f, swp us q f, rfl, by rw [swp_length]; exact HB.out.lts, K3.out, fun s r => HB.out.step Hfq.out s (HR.out s r) Hlo.out⟩, by have := hqf.out; have := HB.out.lts; have := Hlen.out; show zs.length - (f : Int).toNat < zs.length - (q : Int).toNat; omega⟩
end HI
end Go.Proofs.Ytfeehnfpfheojaa
set_option linter.unusedVariables false
set_option linter.unusedSimpArgs false
namespace Go.Proofs.Ytfeehnfpfheojaa
open Go.RowKit Go.Sort
namespace HI
open Hp
variable {nf : Nat} {cb : Array Value} {lt : Int → Int → Bool} {A : Nat → Prop} {K : World → Prop}
variable {B h : Nat} {fv : Value} {ao : Option Addr} {cap : Nat} {zs : List (Int × Nat)} {cnt : Nat} {w w' : World} {D : Nat → Prop}
/-- a heap, and the blocks that are its own -/
def Ho (D : Nat → Prop) (B h : Nat) (fv : Value) (zs : List (Int × Nat)) (cnt : Nat) (w : World) : Prop := ∃ ao cap, Hm B h fv ao cap zs cnt w ∧ ∀ j, D j ↔ Own h ao j
/-- what a call on a heap leaves -/
def To (D : Nat → Prop) (B h : Nat) (fv : Value) (zs : List (Int × Nat)) (cnt : Nat) (w w' : World) : Prop := ∃ D', Ho D' B h fv zs cnt w' ∧ Turn D w w' ∧ ∀ j, D' j → D j ∨ w.heap.size ≤ j
theorem Ho.lo (H : Ho D B h fv zs cnt w) {j : Nat} (hj : D j) : B ≤ j ∧ j < w.heap.size := by
  obtain ⟨ao, cap, hm, hd⟩ := H
  exact hm.own ((hd j).1 hj)
theorem Ho.base (H : Ho D B h fv zs cnt w) : B ≤ w.heap.size := by
  obtain ⟨ao, cap, hm, hd⟩ := H
  have := hm.lo
  have := hm.lt
  omega
theorem Ho.kept {S : Nat → Prop} (H : Ho D B h fv zs cnt w) (t : Turn S w w') (hn : ∀ j, D j → ¬ S j) : Ho D B h fv zs cnt w' := by
  obtain ⟨ao, cap, hm, hd⟩ := H
  exact ⟨ao, cap, hm.kept t (fun j hj => hn j ((hd j).2 hj)), hd⟩
theorem Ho.below (H : Ho D B h fv zs cnt w) (t : Below w.heap.size w w') : Ho D B h fv zs cnt w' := H.kept (turn_below (S := fun _ => False) t) (fun _ _ q => q)
theorem info : (Try.prog.info? 155).map (fun i => (i.zero, i.size, i.bytes)) = some (some (.agg #[.int .i64 0, .int .i64 0]), 2, 16) := by kernel_rfl
/-- a thing more, in its place -/
theorem push_core {z : Int × Nat} {gg cap' : Nat} {w0 w1 : World} (H : Hm B h fv ao cap zs cnt w) (hb0 : Below w.heap.size w w0) (hown1 : w1.ownsRow B 155 2 (.slice (some ⟨gg, 0, none⟩) (zs.length + 1) cap') (zs.length + 1) (zs.flatMap ic ++ ic z))
    (hgrow : w0.grownBy w1 (Value.slice ao zs.length cap).ownBlock) (hat : (Value.slice ao zs.length cap).ownBlock = some gg ∨ gg = w0.heap.size) :
    Hm B h fv (some ⟨gg, 0, none⟩) cap' (zs ++ [z]) cnt (w1.setCell ⟨h, 1, none⟩ (.slice (some ⟨gg, 0, none⟩) (zs.length + 1) cap')) ∧ Turn (Own h ao) w (w1.setCell ⟨h, 1, none⟩ (.slice (some ⟨gg, 0, none⟩) (zs.length + 1) cap')) ∧ (M.At ao gg ∨ w.heap.size ≤ gg) := by
  have hgb : M.At ao gg ∨ w.heap.size ≤ gg := by
    rcases hat with q | q
    · exact .inl (M.own_at q)
    · exact .inr (by rw [q]; exact hb0.size)
  have hne : gg ≠ h := by
    rcases hgb with q | q
    · exact (H.at q).1
    · have := H.lt; omega
  have t0 : Turn (M.At ao) w w1 := ((turn_below hb0)).grown hgrow (fun k hk _ => M.own_at hk)
  have hx1 := (t0.block h H.lt (fun q => (H.at q).1 rfl)).trans H.hh
  have t1 : Turn (fun k => k = h) w1 (w1.setCell ⟨h, 1, none⟩ (.slice (some ⟨gg, 0, none⟩) (zs.length + 1) cap')) := (Turn.refl (fun k => k = h) w1).setCell (p := ⟨h, 1, none⟩) (fun _ => rfl) _
  refine ⟨⟨?_, ?_, H.lo⟩, ?_, hgb⟩
  · rw [List.length_append]; exact M.set_block hx1
  · rw [List.length_append, List.flatMap_append]
    have := t1.row hown1 (fun j hj e => by
      have : gg = j := by simpa [Value.ownBlock] using hj
      omega)
    simpa using this
  · exact (t0.mono (fun k _ q => Or.inr q)).trans (t1.mono (fun k _ e => .inl e))
theorem count_core (H : Hm B h fv ao cap zs cnt w) (c : Nat) : Hm B h fv ao cap zs c (w.setCell ⟨h, 2, none⟩ (.int .i64 (c : Nat))) ∧ Turn (Own h ao) w (w.setCell ⟨h, 2, none⟩ (.int .i64 (c : Nat))) := by
  have t1 : Turn (fun k => k = h) w (w.setCell ⟨h, 2, none⟩ (.int .i64 (c : Nat))) := (Turn.refl (fun k => k = h) w).setCell (p := ⟨h, 2, none⟩) (fun _ => rfl) _
  exact ⟨⟨M.set_block H.hh, t1.row H.row (fun j hj e => (H.at (M.own_at hj)).1 e), H.lo⟩, t1.mono (fun k _ e => .inl e)⟩
/-- the end of a push -/
theorem push_end {gg cap' : Nat} {us vs : List (Int × Nat)} {w1 w2 : World} (hd : ∀ j, D j ↔ Own h ao j) (t1 : Turn (Own h ao) w w1) (hgb : M.At ao gg ∨ w.heap.size ≤ gg) (S : Sift lt B h fv (some ⟨gg, 0, none⟩) cap' us vs cnt w1 w2) : To D B h fv vs cnt w w2 := by
  have hsub : ∀ j, Own h (some ⟨gg, 0, none⟩) j → D j ∨ w.heap.size ≤ j := by
    rintro j (rfl | ⟨a, ha, rfl⟩)
    · exact .inl ((hd _).2 (.inl rfl))
    · cases ha
      rcases hgb with q | q
      · exact .inl ((hd _).2 (.inr q))
      · exact .inr q
  refine ⟨Own h (some ⟨gg, 0, none⟩), ⟨_, _, S.hm, fun j => Iff.rfl⟩, ?_, hsub⟩
  exact (t1.mono (S' := D) (fun j _ q => (hd j).2 q)).then S.turn (fun j hj q => by
    rcases hsub j q with r | r
    · exact r
    · omega)
set_option maxRecDepth 100000 in
set_option maxHeartbeats 4000000 in
theorem push_any (N : Less nf cb lt A K) (x : Int) (H : Ho D B h (.func (.func nf) #[] cb) zs cnt w) (hK : K w) (hA : ∀ j, A j → ¬ D j) (hl : zs.length < 1099511627776) (hc : cnt < 4611686018427387904) :
    Calls Try.prog 53 #[.pointer (some ⟨h, 0, none⟩), .int .i64 x] w fun e w' => e = .returned (.tuple #[]) ∧ ∃ zs', zs'.Perm (zs ++ [(x, cnt)]) ∧ (SWO lt → Heap (ahd lt) zs → Heap (ahd lt) zs') ∧ To D B h (.func (.func nf) #[] cb) zs' (cnt + 1) w w' := by
  have hBw := H.base
  obtain ⟨ao, cap, hm, hd⟩ := H
  obtain ⟨i0, hi0, hz0, hz1, hz2⟩ := info_parts info
  have c1 := hm.c1
  have c2 := hm.c2
  have f1 := hm.fx 1
  have lt := hm.lt
  have row := hm.row
  have n1 : Hid (zs.length + 1 ≤ maxLen) := (show zs.length + 1 ≤ maxLen by unfold maxLen; omega)
  have n2 : Hid ((zs.length + 1) * 16 ≤ 140737488355328) := (show (zs.length + 1) * 16 ≤ 140737488355328 by omega)
  have ne : some h ≠ (Value.slice ao zs.length cap).ownBlock := fun q => (hm.at (M.own_at q.symm)).1 rfl
  have new2 : ∀ o, (w.alloc o).drew.heap[w.heap.size]? = some o := fun o => heap_alloc_new w o
  have new1 := World.new_ne w ⟨h, 1, none⟩ c1
  have newc := World.new_ne w ⟨h, 2, none⟩ c2
  have HH := hide' hm
  have fal : ∀ o, (w.alloc o).drew.frozen? ⟨h, 1, none⟩ = false := fun o => (World.frozen?_of_block (w := w) (Below.heap_alloc _ _ _ lt)).trans f1
  have cal : ∀ o, (w.alloc o).drew.cell? ⟨h, 1, none⟩ = some (.slice ao zs.length cap) := fun o => (World.cell?_of_block (w := w) (Below.heap_alloc _ _ _ lt)).trans c1
  have HN := hide' N
  have HK := hide' hK
  have HA := hide' (fun j a (q : Own h ao j) => hA j a ((hd j).2 q))
  have Hd := hide' hd
  have Hl := hide' hl
  have Hw : Hid (wrap64 ((cnt : Int) + 1) = ((cnt + 1 : Nat) : Int)) := (show wrap64 ((cnt : Int) + 1) = ((cnt + 1 : Nat) : Int) by unfold wrap64; omega)
  have Hold := hide' (fun j a => N.old w j hK a)
  clear hl hc hm hd hA hK N
  go_enter Try.func53, Try.ntmps53
  go_wp2_with fail
  go_region_law ((refine step_append_lies _ (by rfl) _ _ _ (by rfl) B 155 i0 _ 2 16 Try.underlying115 hi0 hz0 hz1 hz2 rfl (by omega) (.slice ao zs.length cap) zs.length (zs.flatMap ic) (by rfl) ((row.alloc _).drew) ⟨w.heap.size, 0, none⟩ 1 1 [.int .i64 x, .int .i64 (cnt : Nat)] (by rfl) (by rfl) (World.news_of_block (cs := #[.int .i64 x, .int .i64 (cnt : Nat)]) (t := 155) (fr := (0, 0)) (new2 _)) (by simp [Value.oneCell']) (by omega) n1.out n2.out (by simp; omega) (w.heap.size + 1) (by simp) ?_; intro gg cap' w1 hown1 hgrow hat hlt; have a0 := (hgrow.cell_far ⟨h, 1, none⟩ (by simp; omega) ne).trans (cal _); have a0f := (hgrow.frozen_far ⟨h, 1, none⟩ (by simp; omega) ne).trans (fal _)))
  all_goals
    have hb0 : Below w.heap.size w (w.alloc (.cells #[.int .i64 x, .int .i64 (cnt : Nat)] 155)).drew := ((Below.refl _ _).alloc (Nat.le_refl _) _).drew
    obtain ⟨L1, S1, S2⟩ := push_core (z := (x, cnt)) HH.out hb0 hown1 hgrow (by simpa using hat)
    generalize (w1.setCell ⟨h, 1, none⟩ (.slice (some ⟨gg, 0, none⟩) (zs.length + 1) cap')) = W at *
    have c1W := L1.c1
    have c2W := L1.c2
    have f2W := L1.fx 2
    obtain ⟨L2, S3⟩ := count_core L1 (cnt + 1)
    have S4 : Turn (Own h ao) w (W.setCell ⟨h, 2, none⟩ (.int .i64 ((cnt + 1 : Nat) : Int))) := S1.then S3 (fun j hj q => by
      rcases q with q | ⟨a, ha, rfl⟩
      · exact .inl q
      · cases ha
        rcases S2 with r | r
        · exact .inr r
        · exfalso; exact absurd hj (Nat.not_lt.2 r))
    have c1V := L2.c1
    rw [List.length_append] at c1W c1V
    have KW : Hid (K (W.setCell ⟨h, 2, none⟩ (.int .i64 ((cnt + 1 : Nat) : Int)))) := HN.out.stay _ _ _ HK.out S4 HA.out
    have HA2 : Hid (∀ j, A j → ¬ Own h (some ⟨gg, 0, none⟩) j) := by
      intro j a q
      rcases q with q | ⟨b, hb, rfl⟩
      · exact HA.out j a (.inl q)
      · cases hb
        rcases S2 with r | r
        · exact HA.out _ a (.inr r)
        · have := Hold.out _ a
          exact absurd this (Nat.not_lt.2 r)
    have HCr := hide' (rise_any HN.out zs.length L2 KW.out HA2.out (by simp) (by rw [List.length_append]; exact Hl.out))
    have KK := hide' (And.intro S4 S2)
    have Hz : Hid (wrap64 (zs.length : Int) = (zs.length : Int)) := (show wrap64 (zs.length : Int) = (zs.length : Int) by have := Hl.out; unfold wrap64; omega)
    have hw := Hw.out
    clear L1 S1 S2 a0 a0f hown1 hgrow hat hlt c1 f1 c2 newc fal cal new1 row ne new2 hb0 L2 S3 S4 KW HA2
    go_wp2_with fail
    rw [Hz.out]
    refine HCr.out.mono ?_
    rintro e w5 ⟨rfl, vs, S5, R5⟩
    have K5 := hide' (And.intro (push_end Hd.out KK.out.1 KK.out.2 S5) (And.intro S5.perm R5))
    clear S5 R5 HCr KK c1W c2W f2W c1V
    go_wp2
    go_end0
    exact ⟨rfl, vs, K5.out.2.1, fun s r => K5.out.2.2 s (Rise.start r _), K5.out.1⟩
end HI
end Go.Proofs.Ytfeehnfpfheojaa
set_option linter.unusedVariables false
set_option linter.unusedSimpArgs false
namespace Go.Proofs.Ytfeehnfpfheojaa
open Go.RowKit Go.Sort
namespace HI
open Hp
variable {nf : Nat} {cb : Array Value} {lt : Int → Int → Bool} {A : Nat → Prop} {K : World → Prop}
variable {B h : Nat} {fv : Value} {ao : Option Addr} {cap : Nat} {zs : List (Int × Nat)} {cnt : Nat} {w w' : World} {D : Nat → Prop}
set_option maxRecDepth 100000 in
theorem peek_none (H : Ho D B h fv [] cnt w) : Calls Try.prog 54 #[.pointer (some ⟨h, 0, none⟩)] w fun e w' => e = .returned (.tuple #[.int .i64 0, .bool false]) ∧ Below w.heap.size w w' := by
  obtain ⟨ao, cap, hm, hd⟩ := H
  have c1 := hm.c1
  rw [List.length_nil] at c1
  clear hm hd
  go_enter Try.func54, Try.ntmps54
  go_wp2
  go_ret2
  exact ⟨rfl, Below.refl _ _⟩
set_option maxRecDepth 100000 in
theorem peek_some {z : Int × Nat} (H : Ho D B h fv zs cnt w) (hz : zs[0]? = some z) : Calls Try.prog 54 #[.pointer (some ⟨h, 0, none⟩)] w fun e w' => e = .returned (.tuple #[.int .i64 z.1, .bool true]) ∧ Below w.heap.size w w' := by
  obtain ⟨ao, cap, hm, hd⟩ := H
  have hl : 0 < zs.length := (List.getElem?_eq_some_iff.1 hz).1
  obtain ⟨g, rfl, hc, hg, hgh⟩ := hm.some hl
  have c1 := hm.c1
  obtain ⟨x0, x1⟩ := hm.item hz
  have hl2 : ¬ ((zs.length : Int) = 0) := by omega
  have hl3 : zs.length ≠ 0 := by omega
  rw [Nat.zero_mul] at x0 x1
  clear hm hd hz
  go_enter Try.func54, Try.ntmps54
  go_wp2
  go_ret2
  exact ⟨rfl, Below.refl _ _⟩
theorem len_any (H : Ho D B h fv zs cnt w) : Calls Try.prog 17 #[.pointer (some ⟨h, 0, none⟩)] w fun e w' => e = .returned (.int .i64 (zs.length : Nat)) ∧ w' = w := by
  obtain ⟨ao, cap, hm, hd⟩ := H
  have c1 := hm.c1
  clear hm hd
  go_enter Try.func17, Try.ntmps17
  go_wp2
  go_ret
  exact ⟨rfl, rfl⟩
theorem eq_func (fn : Fn) (a b : Array Value) (w : World) : (binOp .eql 30 (.func fn a b) .nilFunc).run Try.prog w = .ok (.bool false) w := by kernel_rfl
set_option maxRecDepth 100000 in
theorem new_any (nf : Nat) (cb : Array Value) (w : World) : Calls Try.prog 12 #[.func (.func nf) #[] cb] w fun e w' => e = .returned (.pointer (some ⟨w.heap.size, 0, none⟩)) ∧ ∃ D, Ho D w.heap.size w.heap.size (.func (.func nf) #[] cb) [] 0 w' ∧ Below w.heap.size w w' := by
  have hb := (Below.refl w.heap.size w).alloc (Nat.le_refl _) (.cells #[.func (.func nf) #[] cb, .slice none 0 0, .int .i64 0] 117)
  have hm : Hid (Hm w.heap.size w.heap.size (.func (.func nf) #[] cb) none 0 [] 0 (w.alloc (.cells #[.func (.func nf) #[] cb, .slice none 0 0, .int .i64 0] 117))) := hide' ⟨heap_alloc_new _ _, World.ownsRow_nil _ _ _ _, Nat.le_refl _⟩
  have heq := eq_func
  go_enter Try.func12, Try.ntmps12
  go_wp2
  go_ret
  exact ⟨rfl, _, ⟨none, 0, hm.out, fun _ => Iff.rfl⟩, hb⟩
set_option maxRecDepth 100000 in
set_option maxHeartbeats 1000000 in
theorem sink_none (H : Hm B h fv ao cap [] cnt w) : Calls Try.prog 91 #[.pointer (some ⟨h, 0, none⟩), .int .i64 0] w fun e w' => e = .returned (.tuple #[]) ∧ w' = w := by
  have c1 := H.c1
  rw [List.length_nil] at c1
  clear H
  go_enter Try.func91, Try.ntmps91
  go_wp2_with fail
  go_loopw [1] (fun i wx => i = .int .i64 0 ∧ wx = w) (fun i _ => 0)
  case atStart => exact ⟨rfl, rfl⟩
  case round =>
    obtain ⟨rfl, rfl⟩ := hrel
    go_wp2_with fail
    go_loopw [4, 5] (fun f b wy => f = .int .i64 0 ∧ b = .int .i64 1 ∧ wy = wr) (fun _ b _ => 0)
    case atStart => exact ⟨rfl, rfl, rfl⟩
    case round =>
      obtain ⟨rfl, rfl, rfl⟩ := hrel
      go_wp2
      (try simp only [Exit.inBlock, Exit.then])
      refine bodyPost_ret (results_none rfl _ _ _) rfl ?_
      exact ⟨rfl, rfl⟩
set_option maxRecDepth 100000 in
set_option maxHeartbeats 1000000 in
theorem pop_none (H : Ho D B h fv [] cnt w) : Calls Try.prog 55 #[.pointer (some ⟨h, 0, none⟩)] w fun e w' => e = .returned (.tuple #[.int .i64 0, .bool false]) ∧ Below w.heap.size w w' := by
  have HP := hide' (peek_none H)
  clear H
  go_enter Try.func55, Try.ntmps55
  go_wp2_with fail
  refine HP.out.mono ?_
  rintro e w1 ⟨rfl, b1⟩
  clear HP
  go_wp2
  go_ret2
  exact ⟨rfl, b1⟩
/-- the last taken away -/
theorem cut_core {g n : Nat} {us : List (Int × Nat)} (H : Hm B h fv (some ⟨g, 0, none⟩) cap us cnt w) (hn : n < us.length) : Hm B h fv (some ⟨g, 0, none⟩) cap (us.take n) cnt (((w.setCell ⟨g, n * 2, none⟩ (.int .i64 0)).setCell ⟨g, n * 2 + 1, none⟩ (.int .i64 0)).setCell ⟨h, 1, none⟩ (.slice (some ⟨g, 0, none⟩) n cap)) ∧ Turn (Own h (some ⟨g, 0, none⟩)) w (((w.setCell ⟨g, n * 2, none⟩ (.int .i64 0)).setCell ⟨g, n * 2 + 1, none⟩ (.int .i64 0)).setCell ⟨h, 1, none⟩ (.slice (some ⟨g, 0, none⟩) n cap)) := by
  obtain ⟨h1, t1⟩ := H.put n (0, 0) hn
  change Hm B h fv (some ⟨g, 0, none⟩) cap (us.set n (0, 0)) cnt ((w.setCell ⟨g, n * 2, none⟩ (.int .i64 0)).setCell ⟨g, n * 2 + 1, none⟩ (.int .i64 0)) at h1
  change Turn _ w ((w.setCell ⟨g, n * 2, none⟩ (.int .i64 0)).setCell ⟨g, n * 2 + 1, none⟩ (.int .i64 0)) at t1
  generalize ((w.setCell ⟨g, n * 2, none⟩ (.int .i64 0)).setCell ⟨g, n * 2 + 1, none⟩ (.int .i64 0)) = W at *
  have t2 : Turn (fun k => k = h) W (W.setCell ⟨h, 1, none⟩ (.slice (some ⟨g, 0, none⟩) n cap)) := (Turn.refl (fun k => k = h) W).setCell (p := ⟨h, 1, none⟩) (fun _ => rfl) _
  refine ⟨⟨?_, ?_, H.lo⟩, t1.trans (t2.mono (fun k _ e => .inl e))⟩
  · rw [List.length_take, Nat.min_eq_left (by omega)]
    exact M.set_block h1.hh
  · have r1 := own_cut h1.row (k := n) (by rw [List.length_set]; omega)
    rw [flat_take ic_len _ _ (by rw [List.length_set]; omega), List.take_set_of_le (Nat.le_refl _)] at r1
    rw [List.length_take, Nat.min_eq_left (by omega)]
    exact t2.row r1 (fun j hj e => (h1.at (M.own_at hj)).1 e)
/-- the end of a pop -/
theorem pop_end {us vs : List (Int × Nat)} {w1 w2 : World} (hd : ∀ j, D j ↔ Own h ao j) (t1 : Turn (Own h ao) w w1) (S : Sift lt B h fv ao cap us vs cnt w1 w2) : To D B h fv vs cnt w w2 :=
  ⟨Own h ao, ⟨_, _, S.hm, fun j => Iff.rfl⟩, (t1.trans S.turn).mono (fun j _ q => (hd j).2 q), fun j hj => .inl ((hd j).2 hj)⟩
theorem pop_end2 {us vs : List (Int × Nat)} {w1 w2 w3 : World} {b : Nat} (hd : ∀ j, D j ↔ Own h ao j) (t1 : Turn (Own h ao) w w1) (S : Sift lt B h fv ao cap us vs cnt w1 w2) (t2 : Turn (fun j => j = b) w2 w3) (hb : w.heap.size ≤ b) (hown : ∀ j, Own h ao j → j < w.heap.size) : To D B h fv vs cnt w w3 :=
  ⟨Own h ao, ⟨_, _, S.hm.kept t2 (fun j hj e => by have := hown j hj; omega), fun j => Iff.rfl⟩, ((t1.trans S.turn).mono (fun j _ q => (hd j).2 q)).then t2 (fun j hj e => by omega), fun j hj => .inl ((hd j).2 hj)⟩
end HI
end Go.Proofs.Ytfeehnfpfheojaa
set_option linter.unusedVariables false
set_option linter.unusedSimpArgs false
namespace Go.Proofs.Ytfeehnfpfheojaa
open Go.RowKit Go.Sort
namespace HI
open Hp
variable {nf : Nat} {cb : Array Value} {lt : Int → Int → Bool} {A : Nat → Prop} {K : World → Prop}
variable {B h : Nat} {fv : Value} {ao : Option Addr} {cap : Nat} {zs : List (Int × Nat)} {cnt : Nat} {w w' : World} {D : Nat → Prop}
set_option maxRecDepth 100000 in
set_option maxHeartbeats 4000000 in
theorem pop_some (N : Less nf cb lt A K) {z : Int × Nat} {n : Nat} (H : Ho D B h (.func (.func nf) #[] cb) zs cnt w) (hK : K w) (hA : ∀ j, A j → ¬ D j) (hn : zs.length = n + 1) (hz : zs[0]? = some z) (hl : zs.length ≤ 1099511627776) :
    Calls Try.prog 55 #[.pointer (some ⟨h, 0, none⟩)] w fun e w' => e = .returned (.tuple #[.int .i64 z.1, .bool true]) ∧ ∃ zs', (z :: zs').Perm zs ∧ (SWO lt → Heap (ahd lt) zs → Heap (ahd lt) zs') ∧ To D B h (.func (.func nf) #[] cb) zs' cnt w w' := by
  have HH := hide' H
  have HP := hide' (peek_some H hz)
  obtain ⟨ao, cap, hm, hd⟩ := H
  obtain ⟨g, rfl, hc, hg, hgh⟩ := hm.some (by omega)
  have HN := hide' N
  have HK := hide' hK
  have HA := hide' (fun j a (q : Own h (some ⟨g, 0, none⟩) j) => hA j a ((hd j).2 q))
  have Hd := hide' hd
  have Hl := hide' hl
  have Hz := hide' hz
  have Hn := hide' hn
  have Hm0 := hide' hm
  have Hcap := hide' hc
  have Hw : Hid (wrap64 (n : Int) = (n : Int)) := (show wrap64 (n : Int) = (n : Int) by unfold wrap64; omega)
  obtain ⟨zl, hzl⟩ : ∃ y, zs[n]? = some y := ⟨_, List.getElem?_eq_getElem (by omega)⟩
  have Hzl := hide' hzl
  have hwn := Hw.out
  have hcn : n + 1 ≤ cap := by omega
  have hnc : n ≤ cap := by omega
  clear N hK hA hd hl hz hzl hc
  go_enter Try.func55, Try.ntmps55
  go_wp2_with fail
  refine HP.out.mono ?_
  rintro e w1 ⟨rfl, b1⟩
  have b2' : Below w.heap.size w w1 := b1
  have hm2 := hm.kept (turn_below (S := fun _ => False) b1) (fun _ _ q => q)
  have c1 := hm2.c1
  rw [hn] at c1
  have HCs := hide' (swap_any 0 n z zl hm2 Hz.out Hzl.out)
  have Hb2 := hide' b2'
  clear hn hm HP b1 hm2 b2' HH
  go_wp2_with fail
  rw [hwn]
  refine HCs.out.mono ?_
  rintro e w3 ⟨rfl, h3, t3⟩
  clear HCs c1
  have len3 : (swp zs 0 n).length = n + 1 := by rw [swp_length]; exact Hn.out
  have c3 := h3.c1
  rw [len3] at c3
  have fh3 := h3.fx 1
  obtain ⟨y3, hy3⟩ : ∃ y, (swp zs 0 n)[n]? = some y := ⟨_, List.getElem?_eq_getElem (by omega)⟩
  obtain ⟨i0, i1⟩ := h3.item hy3
  have fr3 := h3.fr
  obtain ⟨h4, t4⟩ := cut_core h3 (n := n) (by omega)
  have t24 := t3.trans t4
  have K4 := hide' (And.intro h4 t24)
  clear h4 t24 t4 h3 t3 hy3 len3
  go_wp2_with fail
  generalize ((w3.setCell ⟨g, n * 2, none⟩ (.int .i64 0)).setCell ⟨g, n * 2 + 1, none⟩ (.int .i64 0)).setCell ⟨h, 1, none⟩ (.slice (some ⟨g, 0, none⟩) n cap) = W4 at *
  clear c3 fh3 i0 i1 fr3
  have tW : Turn (Own h (some ⟨g, 0, none⟩)) w W4 := (turn_below Hb2.out).trans K4.out.2
  have KW4 : Hid (K W4) := HN.out.stay _ _ _ HK.out tW HA.out
  have HTW := hide' tW
  have hS : Hid (Calls Try.prog 91 #[.pointer (some ⟨h, 0, none⟩), .int .i64 0] W4 fun e w' => e = .returned (.tuple #[]) ∧ ∃ vs, Sift lt B h (.func (.func nf) #[] cb) (some ⟨g, 0, none⟩) cap ((swp zs 0 n).take n) vs cnt W4 w' ∧ (SWO lt → Sink (ahd lt) ((swp zs 0 n).take n) 0 → Heap (ahd lt) vs)) := by
    by_cases h0 : n = 0
    · subst h0
      have h5 := K4.out.1
      rw [List.take_zero] at h5
      refine (sink_none h5).mono ?_
      rintro e w' ⟨he, hw⟩
      subst hw
      rw [List.take_zero]
      exact ⟨he, [], ⟨h5, .refl _, Turn.refl _ _⟩, fun _ _ i hi0 hi => by simp at hi⟩
    · have hl5 : ((swp zs 0 n).take n).length = n := by rw [List.length_take, swp_length]; have := Hn.out; omega
      exact sink_any HN.out 0 K4.out.1 KW4.out HA.out (by omega) (by have := Hl.out; have := Hn.out; omega)
  clear tW
  refine hS.out.mono ?_
  rintro e w5 ⟨rfl, vs, S5, R5⟩
  have KK : Hid ((z :: vs).Perm zs ∧ (SWO lt → Heap (ahd lt) zs → Heap (ahd lt) vs) ∧ To D B h (.func (.func nf) #[] cb) vs cnt w w5) := hide' ⟨(List.Perm.cons z S5.perm).trans (take_perm Hn.out Hz.out), fun s r => R5 s (Sink.start r Hn.out), pop_end Hd.out HTW.out S5⟩
  clear S5 R5 hS HTW K4
  go_wp2
  go_ret2
  exact ⟨rfl, vs, KK.out.1, KK.out.2.1, KK.out.2.2⟩
end HI
end Go.Proofs.Ytfeehnfpfheojaa
set_option linter.unusedVariables false
set_option linter.unusedSimpArgs false
namespace Go.Proofs.Ytfeehnfpfheojaa
open Go.RowKit Go.Sort
namespace HI
open Hp
variable {nf : Nat} {cb : Array Value} {lt : Int → Int → Bool}
variable {B h : Nat} {fv : Value} {zs : List (Int × Nat)} {cnt : Nat} {w w' : World} {D : Nat → Prop}
theorem Ho.kind (H : Ho D B h fv zs cnt w) {j : Nat} (hj : D j) : ∃ c t, w.heap[j]? = some (.cells c t (0, 0)) ∧ (t = 117 ∨ t = 155) := by
  obtain ⟨ao, cap, hm, hd⟩ := H
  rcases (hd j).1 hj with rfl | ⟨a, rfl, rfl⟩
  · exact ⟨_, _, hm.hh, .inl rfl⟩
  · rcases hm.row.2 with ⟨hv, _⟩ | ⟨g', cap', cur, hv, hb, hg', _⟩
    · cases hv
    · simp only [Value.slice.injEq, Option.some.injEq] at hv
      obtain ⟨rfl, _, _⟩ := hv
      exact ⟨_, _, hg', .inr rfl⟩
theorem Ho.not (H : Ho D B h fv zs cnt w) {b : Nat} {c : Array Value} {t : TypeId} {r : Nat × Nat} (hb : w.heap[b]? = some (.cells c t r)) (h1 : t ≠ 117) (h2 : t ≠ 155) : ¬ D b := by
  intro q
  obtain ⟨c', t', e, ht⟩ := H.kind q
  rw [hb] at e
  cases e
  rcases ht with rfl | rfl
  · exact h1 rfl
  · exact h2 rfl
theorem To.below {zs' : List (Int × Nat)} {cnt' B0 : Nat} {w0 : World} (H : Ho D B h fv zs cnt w) (T : To D B h fv zs' cnt' w w') (b : Below B0 w0 w) (hB : B0 ≤ B) : Below B0 w0 w' := by
  obtain ⟨D', _, t, _⟩ := T
  exact b.trans (t.below (fun j q => Nat.le_trans hB (H.lo q).1) (Nat.le_trans hB H.base))
/-- the least of all -/
theorem least {L : List (Int × Nat)} {z : Int × Nat} (S : SWO lt) (hp : zs.Perm L) (hh : Heap (ahd lt) zs) (hz : zs[0]? = some z) : z ∈ L ∧ ∀ y ∈ L, ahd lt y z = false := by
  refine ⟨hp.mem_iff.1 (List.mem_of_getElem? hz), fun y hy => ?_⟩
  obtain ⟨i, hi⟩ := List.mem_iff_getElem?.1 (hp.mem_iff.2 hy)
  exact hh.root (swo_ahd S) i y z hi hz
end HI
end Go.Proofs.Ytfeehnfpfheojaa
set_option linter.unusedVariables false
set_option linter.unusedSimpArgs false
namespace Go.Proofs.Ytfeehnfpfheojaa
open Go.RowKit Go.Sort
namespace Lv
def ltI (a b : Int) : Bool := decide (a < b)
theorem swoI : SWO ltI where
  irrefl x := by simp [ltI]
  trans x y z h1 h2 := by simp [ltI] at *; omega
  ntrans x y z h1 h2 := by simp [ltI] at *; omega
set_option maxRecDepth 100000 in
theorem lt61 (x y : Int) (w : World) : Calls Try.prog 61 #[.int .i64 x, .int .i64 y] w fun e w' => e = .returned (.bool (ltI x y)) ∧ Below w.heap.size w w' := by
  unfold ltI
  go_enter Try.func61, Try.ntmps61
  go_wp2
  go_ret
  exact ⟨rfl, Below.refl _ _⟩
theorem less61 : HI.Less 61 #[] ltI (fun _ => False) (fun _ => True) where
  enters := Try.call61
  call x y w _ := lt61 x y w
  stay _ _ _ _ _ _ := trivial
  old _ _ _ q := q.elim
open Fr Ar
/-- a Take where one piece is free -/
theorem take_one {D : Nat → Prop} {B ab x : Nat} {ws : List Int} {tr : List M.Ac} {bad : Nat} {p : Bk} {O : List (Int × Int)} {cnt : Nat} {w : World} (n : Int) (H : Arn D B ab x ws tr bad [p] O cnt w) (ho : Okb p) (h1 : 1 ≤ n) (h2 : n ≤ p.size) (hno : Oo.hasK O p.addr = false) (hO : O.length < 1000) (hc : cnt < 100000000) :
    Calls Try.prog 46 #[.pointer (some ⟨ab, 0, none⟩), .int .i64 n] w fun e w' => e = .returned (.tuple #[.int .i64 p.addr, .int .i64 0]) ∧ ∃ c', c' ≤ cnt + 65537 ∧ ATo D B ab x (M.pfill ws p.addr n 0) tr bad (rem p n) ((p.addr, n) :: O) c' w w' := by
  have ho' : Oks [p] := fun x hx => by rw [List.mem_singleton.1 hx]; exact ho
  have hsz := ho.2.2.1
  have had := ho.1
  refine (take_any n H (List.pairwise_singleton _ _) ho' (by omega) (fun q hq => ?_) (by omega) (by omega)).mono ?_
  · have : q = p := List.mem_singleton.1 hq
    rw [this]; exact hno
  · rintro e w' (⟨q, _⟩ | ⟨_, q, _⟩ | ⟨_, S, q, FR, hN, _, _, _, _, he, c', hc', T⟩)
    · omega
    · have := q p (List.mem_singleton.2 rfl)
      omega
    · have hN' : [p] = S ++ q :: norm FR := hN
      cases S with
      | nil =>
        simp only [List.nil_append, List.cons.injEq] at hN'
        obtain ⟨rfl, hF⟩ := hN'
        have hFR : FR = [] := by
          cases FR with
          | nil => rfl
          | cons c r =>
            obtain ⟨s, t, e⟩ := norm_head (F := c :: r) rfl
            rw [e] at hF
            cases hF
        subst hFR
        rw [List.nil_append, List.append_nil] at T
        exact ⟨he, c', hc', T⟩
      | cons s S => simp at hN'
theorem ato_below {D : Nat → Prop} {B ab x : Nat} {ws ws' : List Int} {tr tr' : List M.Ac} {bad bad' : Nat} {F F' : List Bk} {O O' : List (Int × Int)} {cnt cnt' B0 : Nat} {w0 w w' : World} (H : Arn D B ab x ws tr bad F O cnt w) (T : ATo D B ab x ws' tr' bad' F' O' cnt' w w') (b : Below B0 w0 w) (hB : B0 ≤ B) : ∃ D', Arn D' B ab x ws' tr' bad' F' O' cnt' w' ∧ Below B0 w0 w' := by
  obtain ⟨D', h', t, _⟩ := T
  exact ⟨D', h', b.trans (t.below (fun j q => Nat.le_trans hB (H.lo q).1) (Nat.le_trans hB H.base))⟩
set_option maxRecDepth 100000 in
set_option maxHeartbeats 4000000 in
theorem lively_any (w : World) : Calls Try.prog 11 #[] w fun e w' => e = .returned (.bool true) ∧ Below w.heap.size w w' := by
  have HN := hide' (HI.new_any 61 #[] w)
  go_enter Try.func11, Try.ntmps11
  go_wp2_with fail
  refine HN.out.mono ?_
  rintro e w1 ⟨rfl, D1, h1, b1⟩
  have HM := hide' (M.new_any 20 w1 (by omega) (by omega) 20 rfl)
  have H1 := hide' (And.intro h1 b1)
  have Hw1 := hide' b1.size
  clear h1 b1 HN
  go_wp2_with fail
  refine HM.out.mono ?_
  rintro e w2 ⟨x, rfl, DM, hm, b2⟩
  have h2 := H1.out.1.below b2
  have bb2 : Below w.heap.size w w2 := H1.out.2.trans (b2.mono H1.out.2.size)
  have HP := hide' (HI.push_any less61 5 h2 trivial (fun _ q => q.elim) (by simp) (by omega))
  have H2 := hide' (And.intro h2 (And.intro bb2 hm))
  clear h2 bb2 hm b2 H1 HM
  go_wp2_with fail
  refine HP.out.mono ?_
  rintro e w3 ⟨rfl, zs3, p3, hh3, T3⟩
  have bb3 := HI.To.below H2.out.1 T3 H2.out.2.1 (Nat.le_refl _)
  have hm3 : M.Mem DM w1.heap.size x (List.replicate 20 0) [] 0 w3 := by
    obtain ⟨_, _, t, _⟩ := T3
    exact H2.out.2.2.kept t (fun j q r => by
      obtain ⟨c, ty, e, ht⟩ := H2.out.2.2.kind q
      exact H2.out.1.not e (by rcases ht with rfl | rfl | rfl <;> decide) (by rcases ht with rfl | rfl | rfl <;> decide) r)
  obtain ⟨D3, h3, _, _⟩ := T3
  have hp3 : zs3 = [(5, 0)] := List.perm_singleton.1 p3
  subst hp3
  have HP4 := hide' (HI.push_any less61 3 h3 trivial (fun _ q => q.elim) (by simp) (by omega))
  have H3 := hide' (And.intro h3 (And.intro bb3 (And.intro hm3 (hh3 swoI (fun i _ hi => by simp at hi)))))
  clear HP H2 h3 bb3 hm3 hh3 p3
  go_wp2_with fail
  refine HP4.out.mono ?_
  rintro e w4 ⟨rfl, zs4, p4, hh4, T4⟩
  have bb4 := HI.To.below H3.out.1 T4 H3.out.2.1 (Nat.le_refl _)
  have hm4 : M.Mem DM w1.heap.size x (List.replicate 20 0) [] 0 w4 := by
    obtain ⟨_, _, t, _⟩ := T4
    exact H3.out.2.2.1.kept t (fun j q r => by
      obtain ⟨c, ty, e, ht⟩ := H3.out.2.2.1.kind q
      exact H3.out.1.not e (by rcases ht with rfl | rfl | rfl <;> decide) (by rcases ht with rfl | rfl | rfl <;> decide) r)
  obtain ⟨D4, h4, _, _⟩ := T4
  have hlen4 : zs4.length = 2 := p4.length_eq
  obtain ⟨z, hz⟩ : ∃ z, zs4[0]? = some z := ⟨_, List.getElem?_eq_getElem (by omega)⟩
  have hz3 : z = (3, 1) := by
    obtain ⟨hm, hl⟩ := HI.least swoI p4 (hh4 swoI H3.out.2.2.2) hz
    have : z = (5, 0) ∨ z = (3, 1) := by simpa using hm
    rcases this with rfl | rfl
    · have := hl (3, 1) (by simp)
      revert this
      decide
    · rfl
  subst hz3
  have HP5 := hide' (HI.pop_some less61 h4 trivial (fun _ q => q.elim) (n := 1) hlen4 hz (by omega))
  have H4 := hide' (And.intro h4 (And.intro bb4 hm4))
  clear HP4 H3 h4 bb4 hm4 hh4 p4 hz
  go_wp2_with fail
  refine HP5.out.mono ?_
  rintro e w5 ⟨rfl, zs5, p5, _, T5⟩
  have bb5 := HI.To.below H4.out.1 T5 H4.out.2.1 (Nat.le_refl _)
  have hm5 : M.Mem DM w1.heap.size x (List.replicate 20 0) [] 0 w5 := by
    obtain ⟨_, _, t, _⟩ := T5
    exact H4.out.2.2.kept t (fun j q r => by
      obtain ⟨c, ty, e, ht⟩ := H4.out.2.2.kind q
      exact H4.out.1.not e (by rcases ht with rfl | rfl | rfl <;> decide) (by rcases ht with rfl | rfl | rfl <;> decide) r)
  obtain ⟨D5, h5, _, _⟩ := T5
  have hlen5 : zs5.length = 1 := by have := p5.length_eq; simp at this; omega
  have HNw := hide' (Ar.new_any 8 hm5 (by simp))
  have H5 := hide' (And.intro h5 bb5)
  clear HP5 H4 h5 bb5 hm5 p5
  go_wp2_with fail
  refine HNw.out.mono ?_
  rintro e w6 ⟨ab, rfl, D6, hA, b6, _⟩
  have hA6 : Arn D6 w1.heap.size ab x (List.replicate 20 0) [] 0 [⟨8, 12, true⟩] [] 1 w6 := hA
  have bb6 : Below w.heap.size w w6 := H5.out.2.trans (b6.mono H5.out.2.size)
  have HLn := hide' (HI.len_any (H5.out.1.below b6))
  rw [hlen5] at HLn
  have HT := hide' (take_one 5 hA6 ⟨by decide, by decide, by decide, rfl⟩ (by decide) (by decide) rfl (by simp) (by omega))
  have H6 := hide' (And.intro hA6 bb6)
  clear HNw hA hA6 bb6 b6 H5
  go_wp2_with fail
  refine HLn.out.mono ?_
  rintro e w7 ⟨rfl, hw⟩
  replace hw := hw.symm
  subst hw
  clear HLn
  go_wp2_with fail
  refine HT.out.mono ?_
  rintro e w8 ⟨rfl, c8, hc8, T8⟩
  obtain ⟨D8, hA8, bb8⟩ := ato_below H6.out.1 T8 H6.out.2 Hw1.out
  have hA8' : Arn D8 w1.heap.size ab x (M.pfill (List.replicate 20 0) 8 5 0) [] 0 [⟨13, 7, true⟩] [(8, 5)] c8 w8 := hA8
  have HT9 := hide' (take_one 4 hA8' ⟨by decide, by decide, by decide, rfl⟩ (by decide) (by decide) rfl (by simp) (by omega))
  have H8 := hide' (And.intro hA8' bb8)
  have Hc8 := hide' hc8
  generalize M.pfill (List.replicate 20 0) 8 5 0 = ws8 at *
  clear HT T8 hA8 hA8' bb8 H6 hc8
  go_wp2_with fail
  refine HT9.out.mono ?_
  rintro e w9 ⟨rfl, c9, hc9, T9⟩
  obtain ⟨D9, hA9, bb9⟩ := ato_below H8.out.1 T9 H8.out.2 Hw1.out
  have hA9' : Arn D9 w1.heap.size ab x (M.pfill ws8 13 4 0) [] 0 [⟨17, 3, true⟩] [(13, 4), (8, 5)] c9 w9 := hA9
  generalize M.pfill ws8 13 4 0 = ws9 at *
  have HG := hide' (give_yes 8 (Oo.okk_of (by omega) (by omega)) hA9' rfl (F' := [⟨8, 5, true⟩, ⟨17, 3, true⟩]) (.refl _) (by simp) (by have := Hc8.out; omega) (by decide))
  have H9 := hide' (And.intro hA9' bb9)
  clear HT9 T9 hA9 hA9' bb9 H8 hc9
  go_wp2_with fail
  refine HG.out.mono ?_
  rintro e w10 ⟨rfl, T10⟩
  obtain ⟨D10, hA10, bb10⟩ := ato_below H9.out.1 T10 H9.out.2 Hw1.out
  have HLv := hide' (live_any hA10)
  rw [show (Oo.del [(13, 4), (8, 5)] 8).length = 1 from rfl] at HLv
  have Hbb := hide' bb10
  clear HG T10 hA10 bb10 H9
  go_wp2_with fail
  refine HLv.out.mono ?_
  rintro e w11 ⟨rfl, hw⟩
  replace hw := hw.symm
  subst hw
  clear HLv
  go_wp2
  go_ret
  exact ⟨rfl, Hbb.out⟩
end Lv
end Go.Proofs.Ytfeehnfpfheojaa
