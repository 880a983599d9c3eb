import Derived.Test.YtfeehnfpfheojaaHaB
set_option linter.unusedVariables false
set_option linter.unusedSimpArgs false
namespace Go.Proofs.Ytfeehnfpfheojaa
open Go.RowKit Go.Sort
namespace HB
open Hp
variable {nf : Nat} {cb : Array Value} {lt : Bk → Bk → Bool} {A : Nat → Prop} {K : World → Prop}
variable {B h : Nat} {ao : Option Addr} {cap : Nat} {zs : List (Bk × Nat)} {cnt : Nat} {w w' : World}
/-- what a sift leaves -/
structure Sift (lt : Bk → Bk → Bool) (B h : Nat) (fv : Value) (ao : Option Addr) (cap : Nat) (zs zs' : List (Bk × Nat)) (cnt : Nat) (w wx : World) : Prop where
  hm : Hm B h fv ao cap zs' cnt wx
  perm : zs'.Perm zs
  turn : Turn (Own h ao) w wx
theorem Less.own (N : Less nf cb lt A K) (hK : K w) (hA : ∀ j, A j → ¬ Own h ao j) (t : Turn (Own h ao) w w') : K w' := N.stay _ w w' hK t hA
theorem tdiv_par (k : Nat) (h : 0 < k) : ((k : Int) - 1).tdiv 2 = ((par k : Nat) : Int) := by
  rw [Int.tdiv_eq_ediv_of_nonneg (by omega)]
  unfold par
  omega
set_option maxRecDepth 100000 in
set_option maxHeartbeats 4000000 in
theorem rise_any (N : Less nf cb lt A K) (k : Nat) (H : Hm B h (.func (.func nf) #[] cb) ao cap zs cnt w) (hK : K w) (hA : ∀ j, A j → ¬ Own h ao j) (hk : k < zs.length) (hl : zs.length ≤ 1099511627776) :
    Calls Try.prog 105 #[.pointer (Option.some ⟨h, 0, none⟩), .int .i64 (k : Nat)] w fun e w' => e = .returned (.tuple #[]) ∧ ∃ zs', Sift lt B h (.func (.func nf) #[] cb) ao cap zs zs' cnt w w' ∧ (SWO lt → Rise (ahd lt) zs k → Heap (ahd lt) zs') := by
  have HN := hide' N
  have HK := hide' hK
  have HA := hide' hA
  have Hl := hide' hl
  have HH := hide' H
  have Hk := hide' hk
  clear N hK hA hl H hk
  go_enter Try.func105, Try.ntmps105
  go_wp2_with fail
  go_loopw [1] (fun i wx => ∃ (q : Nat) (us : List (Bk × Nat)), i = .int .i64 (q : Int) ∧ q < us.length ∧ Sift lt B h (.func (.func nf) #[] cb) ao cap zs us cnt w wx ∧ (SWO lt → Rise (ahd lt) zs k → Rise (ahd lt) us q)) (fun i _ => (intOf i).toNat)
  case atStart => exact ⟨k, zs, rfl, Hk.out, ⟨HH.out, .refl _, Turn.refl _ _⟩, fun _ r => r⟩
  case round =>
    obtain ⟨q, us, rfl, hq, hS, hR⟩ := hrel
    have hlen := hS.perm.length_eq
    by_cases h0 : q = 0
    · subst h0
      have K0 := hide' (And.intro hS hR)
      clear hS hR hlen hq
      go_wp2
      go_end0
      exact ⟨rfl, us, K0.out.1, fun s r => (K0.out.2 s r).top⟩
    · have hp : 0 < q := by omega
      have hpar : par q < q := by unfold par; omega
      have hu : us[q]? = Option.some us[q] := List.getElem?_eq_getElem hq
      have hv : us[par q]? = Option.some us[par q] := List.getElem?_eq_getElem (by omega)
      have hl' := Hl.out
      have HCa := hide' (ahead_any HN.out (HN.out.own HK.out HA.out hS.turn) q (par q) _ _ hS.hm hu hv)
      have e1 := tdiv_par q hp
      have e2 : wrap64 ((q : Int) - 1) = (q : Int) - 1 := by unfold wrap64; omega
      have e3 : wrap64 ((par q : Nat) : Int) = ((par q : Nat) : Int) := by unfold wrap64; omega
      have e4 : (0 : Int) < (q : Int) := by omega
      have Hq := hide' hq
      have HS := hide' hS
      have HR := hide' hR
      have Hpar := hide' hpar
      have Hhu := hide' hu
      have Hhv := hide' hv
      generalize hxq : us[q] = xq at *
      generalize hxp : us[par q] = xp at *
      clear hS hR hlen hq hpar hu hv hl' h0 hp hxq hxp
      cases hc : ahd lt xq xp
      · rw [hc] at HCa
        go_wp2_with fail
        refine HCa.out.mono ?_
        rintro e w2 ⟨rfl, b2⟩
        have K2 : Hid (Sift lt B h (.func (.func nf) #[] cb) ao cap zs us cnt w w2) := hide' ⟨HS.out.hm.kept (turn_below (S := fun _ => False) b2) (fun _ _ z => z), HS.out.perm, HS.out.turn.trans (turn_below b2)⟩
        clear b2 HCa
        go_wp2
        (try simp only [Exit.inBlock, Exit.then])
        refine bodyPost_ret (results_none rfl _ _ _) rfl ?_
        exact ⟨rfl, us, K2.out, fun s r => (HR.out s r).done (fun x y hx hy => by rw [Hhu.out] at hx; rw [Hhv.out] at hy; cases hx; cases hy; exact hc)⟩
      · rw [hc] at HCa
        go_wp2_with fail
        refine HCa.out.mono ?_
        rintro e w2 ⟨rfl, b2⟩
        have K2 : Hid (Sift lt B h (.func (.func nf) #[] cb) ao cap zs us cnt w w2) := hide' ⟨HS.out.hm.kept (turn_below (S := fun _ => False) b2) (fun _ _ z => z), HS.out.perm, HS.out.turn.trans (turn_below b2)⟩
        have HCs := hide' (swap_any q (par q) _ _ K2.out.hm Hhu.out Hhv.out)
        clear b2 HCa
        go_wp2_with fail
        refine HCs.out.mono ?_
        rintro e w3 ⟨rfl, h3, t3⟩
        have K3 : Hid (Sift lt B h (.func (.func nf) #[] cb) ao cap zs (swp us q (par q)) cnt w w3) := hide' ⟨h3, (swp_perm _ _ _).trans K2.out.perm, K2.out.turn.trans t3⟩
        clear h3 t3 HCs K2
        go_wp2
        exact ⟨⟨par q, swp us q (par q), rfl, by rw [swp_length]; have := Hq.out; have := Hpar.out; omega, K3.out, fun s r => (HR.out s r).step (swo_ahd s) (by omega) Hq.out Hhu.out Hhv.out hc⟩, by have := Hpar.out; show (par q : Int).toNat < (q : Int).toNat; omega⟩
end HB
end Go.Proofs.Ytfeehnfpfheojaa
