import Derived.Test.YtfeehnfpfheojaaHrB
import Derived.Test.YtfeehnfpfheojaaHpB
set_option linter.unusedVariables false
set_option linter.unusedSimpArgs false
namespace Go.Proofs.Ytfeehnfpfheojaa
open Go.RowKit Go.Sort
namespace HB
open Hp
variable {nf : Nat} {cb : Array Value} {lt : Bk → Bk → Bool} {A : Nat → Prop} {K : World → Prop}
variable {B h : Nat} {ao : Option Addr} {cap : Nat} {zs : List (Bk × Nat)} {cnt : Nat} {w w' : World}
set_option maxRecDepth 100000 in
set_option maxHeartbeats 4000000 in
theorem sink_any (N : Less nf cb lt A K) (k : Nat) (H : Hm B h (.func (.func nf) #[] cb) ao cap zs cnt w) (hK : K w) (hA : ∀ j, A j → ¬ Own h ao j) (hk : k < zs.length) (hl : zs.length ≤ 1099511627776) :
    Calls Try.prog 107 #[.pointer (Option.some ⟨h, 0, none⟩), .int .i64 (k : Nat)] w fun e w' => e = .returned (.tuple #[]) ∧ ∃ zs', Sift lt B h (.func (.func nf) #[] cb) ao cap zs zs' cnt w w' ∧ (SWO lt → Sink (ahd lt) zs k → Heap (ahd lt) zs') := by
  have HN := hide' N
  have HK := hide' hK
  have HA := hide' hA
  have Hl := hide' hl
  have HH := hide' H
  have Hk := hide' hk
  clear N hK hA hl H hk
  go_enter Try.func107, Try.ntmps107
  go_wp2_with fail
  go_loopw [1] (fun i wx => ∃ (q : Nat) (us : List (Bk × Nat)), i = .int .i64 (q : Int) ∧ q < us.length ∧ Sift lt B h (.func (.func nf) #[] cb) ao cap zs us cnt w wx ∧ (SWO lt → Sink (ahd lt) zs k → Sink (ahd lt) us q)) (fun i _ => zs.length - (intOf i).toNat)
  case atStart => exact ⟨k, zs, rfl, Hk.out, ⟨HH.out, .refl _, Turn.refl _ _⟩, fun _ r => r⟩
  case round =>
    obtain ⟨q, us, rfl, hq, hS, hR⟩ := hrel
    have hlen := hS.perm.length_eq
    have hl' := Hl.out
    have e1 : wrap64 (2 * (q : Int)) = 2 * (q : Int) := by unfold wrap64; omega
    have e2 : wrap64 (2 * (q : Int) + 1) = 2 * (q : Int) + 1 := by unfold wrap64; omega
    have e3 : wrap64 (2 * (q : Int) + 2) = 2 * (q : Int) + 2 := by unfold wrap64; omega
    have HS := hide' hS
    have HR := hide' hR
    have Hq := hide' hq
    have Hlen := hide' hlen
    clear hS hR hlen hq hl'
    go_wp2_with fail
    simp only [e1, e2]
    go_loopw [4, 5] (fun f b wy => ∃ (f' b' : Nat), f = .int .i64 (f' : Int) ∧ b = .int .i64 (b' : Int) ∧ 2 * q + 1 ≤ b' ∧ b' ≤ 2 * q + 3 ∧ b' ≤ us.length + 2 * q + 1 ∧ Best lt us q f' b' ∧ Sift lt B h (.func (.func nf) #[] cb) ao cap zs us cnt w wy) (fun _ b _ => 2 * q + 3 - (intOf b).toNat)
    case atStart => exact ⟨q, 2 * q + 1, rfl, by go_num, by omega, by omega, by omega, Best.start us q Hq.out, HS.out⟩
    case round =>
      obtain ⟨f, b, rfl, rfl, hb1, hb2, hb3, hB, hS⟩ := hrel
      have hl' := Hl.out
      have hlen := Hlen.out
      have c1 := hS.hm.c1
      by_cases hin : b ≤ 2 * q + 2 ∧ b < us.length
      · obtain ⟨i1, i2⟩ := hin
        have d1 : (b : Int) ≤ 2 * (q : Int) + 2 := by omega
        have d2 : (b : Int) < (us.length : Int) := by omega
        have e5 : wrap64 ((b : Int) + 1) = (b : Int) + 1 := by unfold wrap64; omega
        obtain ⟨xq, hu⟩ : ∃ z, us[b]? = Option.some z := ⟨_, List.getElem?_eq_getElem i2⟩
        obtain ⟨xp, hv⟩ : ∃ z, us[f]? = Option.some z := ⟨_, List.getElem?_eq_getElem hB.lts⟩
        have HCa := hide' (ahead_any HN.out (HN.out.own HK.out HA.out hS.turn) b f _ _ hS.hm hu hv)
        have HB := hide' hB
        have HS2 := hide' hS
        have Hhu := hide' hu
        have Hhv := hide' hv
        have Hb1 := hide' hb1
        have Hi1 := hide' i1
        have Hi2 := hide' i2
        clear hB hS hu hv hb1 hb2 hb3 i1 i2 hl' hlen
        cases hc : ahd lt xq xp
        · rw [hc] at HCa
          go_wp2_with fail
          refine HCa.out.mono ?_
          rintro e w2 ⟨rfl, b2⟩
          have K2 : Hid (Sift lt B h (.func (.func nf) #[] cb) ao cap zs us cnt w w2) := hide' ⟨HS2.out.hm.kept (turn_below (S := fun _ => False) b2) (fun _ _ z => z), HS2.out.perm, HS2.out.turn.trans (turn_below b2)⟩
          clear b2 HCa c1
          go_wp2
          go_roundw
          case rel => exact ⟨f, b + 1, rfl, by go_num, by have := Hb1.out; omega, by have := Hi1.out; omega, by have := Hi2.out; omega, HB.out.stay Hhu.out Hhv.out hc, K2.out⟩
          case measure => rw [e5]; show 2 * q + 3 - ((b : Int) + 1).toNat < 2 * q + 3 - (b : Int).toNat; have := Hi1.out; omega
        · rw [hc] at HCa
          go_wp2_with fail
          refine HCa.out.mono ?_
          rintro e w2 ⟨rfl, b2⟩
          have K2 : Hid (Sift lt B h (.func (.func nf) #[] cb) ao cap zs us cnt w w2) := hide' ⟨HS2.out.hm.kept (turn_below (S := fun _ => False) b2) (fun _ _ z => z), HS2.out.perm, HS2.out.turn.trans (turn_below b2)⟩
          clear b2 HCa c1
          go_wp2
          go_roundw
          case rel => exact ⟨b, b + 1, rfl, by go_num, by have := Hb1.out; omega, by have := Hi1.out; omega, by have := Hi2.out; omega, HB.out.move (by have := Hb1.out; omega) (by have := Hb1.out; have := Hi1.out; unfold par; omega) Hhu.out Hhv.out hc, K2.out⟩
          case measure => rw [e5]; show 2 * q + 3 - ((b : Int) + 1).toNat < 2 * q + 3 - (b : Int).toNat; have := Hi1.out; omega
      · have hlo : ∀ c, 0 < c → c < us.length → par c = q → c < b := fun c h0 hc hp => by unfold par at hp; omega
        have Hlo := hide' hlo
        have HB := hide' hB
        have HS2 := hide' hS
        have hout : ¬ ((b : Int) ≤ 2 * (q : Int) + 2) ∨ ((b : Int) ≤ 2 * (q : Int) + 2 ∧ ¬ ((b : Int) < (us.length : Int))) := by omega
        by_cases hfq : f = q
        · have hfd : (f : Int) = (q : Int) := by omega
          clear hB hS hb1 hb2 hb3 hl' hlen hlo hin
          subst hfq
          clear hfd
          rcases hout with d1 | ⟨d1, d2⟩
          all_goals
            go_wp2
            (try simp only [Exit.inBlock, Exit.then])
            refine bodyPost_ret (results_none rfl _ _ _) rfl ?_
            exact ⟨rfl, us, HS2.out, fun s r => HB.out.done s (HR.out s r) Hlo.out⟩
        · have hfd : ¬ ((f : Int) = (q : Int)) := by omega
          have Hfq := hide' hfq
          have HCs := hide' (swap_any q f _ _ hS.hm (List.getElem?_eq_getElem Hq.out) (List.getElem?_eq_getElem hB.lts))
          have hqf : Hid (q < f) := by
            rcases hB.of with e | ⟨a, b', c⟩
            · exact absurd e hfq
            · exact (show q < f by unfold par at b'; omega)
          clear hB hS hb1 hb2 hb3 hl' hlen hlo hin hfq
          rcases hout with d1 | ⟨d1, d2⟩
          all_goals
            go_wp2_with fail
            refine HCs.out.mono ?_
            rintro e w3 ⟨rfl, h3, t3⟩
            have K3 : Hid (Sift lt B h (.func (.func nf) #[] cb) ao cap zs (swp us q f) cnt w w3) := hide' ⟨h3, (swp_perm _ _ _).trans HS2.out.perm, HS2.out.turn.trans t3⟩
            clear h3 t3 HCs
            go_wp2
            exact ⟨⟨f, swp us q f, rfl, by rw [swp_length]; exact HB.out.lts, K3.out, fun s r => HB.out.step Hfq.out s (HR.out s r) Hlo.out⟩, by have := hqf.out; have := HB.out.lts; have := Hlen.out; show zs.length - (f : Int).toNat < zs.length - (q : Int).toNat; omega⟩
end HB
end Go.Proofs.Ytfeehnfpfheojaa
