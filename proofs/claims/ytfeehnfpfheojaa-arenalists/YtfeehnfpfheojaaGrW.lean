import Derived.Test.YtfeehnfpfheojaaJF
import Derived.Test.YtfeehnfpfheojaaJC
import Derived.Test.YtfeehnfpfheojaaG25
set_option linter.unusedVariables false
set_option linter.unusedSimpArgs false
namespace Go.Proofs.Ytfeehnfpfheojaa
open Go.RowKit
namespace Gr
open Fr Ar Ra M
theorem info88 : (Try.prog.info? 88).map (fun i => (i.zero, i.size, i.bytes)) = some (some (.slice none 0 0), 1, 24) := by kernel_rfl
theorem msr' {k n : Nat} (h : k < n) (i : Int) (e : i = (k : Int) + 1) : n - (intOf (.int .i64 i)).toNat < n - (intOf (.int .i64 (k : Int))).toNat := by
  rw [e]
  show n - ((k : Int) + 1).toNat < n - (k : Int).toNat
  omega
theorem wrap_in' {x : Int} (h : -9223372036854775808 ≤ x ∧ x ≤ 9223372036854775807) : wrap64 x = x := by unfold wrap64; omega
/-- what a store of three cells reads -/
theorem cells3 {w : World} {g k : Nat} {u0 u1 u2 : Value} (c0 : w.cell? ⟨g, k * 3, none⟩ = some u0) (c1 : w.cell? ⟨g, k * 3 + 1, none⟩ = some u1) (c2 : w.cell? ⟨g, k * 3 + 2, none⟩ = some u2) (hf : ∀ i, w.frozen? ⟨g, i, none⟩ = false) (v0 v1 : Value) :
    (w.setCell ⟨g, k * 3, none⟩ v0).cell? ⟨g, k * 3 + 1, none⟩ = some u1 ∧ (w.setCell ⟨g, k * 3, none⟩ v0).frozen? ⟨g, k * 3 + 1, none⟩ = false ∧ ((w.setCell ⟨g, k * 3, none⟩ v0).setCell ⟨g, k * 3 + 1, none⟩ v1).cell? ⟨g, k * 3 + 2, none⟩ = some u2 ∧ ((w.setCell ⟨g, k * 3, none⟩ v0).setCell ⟨g, k * 3 + 1, none⟩ v1).frozen? ⟨g, k * 3 + 2, none⟩ = false := by
  refine ⟨(World.cell?_setCell_other _ _ _ _ (by simp)).trans c1, by rw [World.frozen?_setCell]; exact hf _, ((World.cell?_setCell_other _ _ _ _ (by simp)).trans (World.cell?_setCell_other _ _ _ _ (by simp))).trans c2, by rw [World.frozen?_setCell, World.frozen?_setCell]; exact hf _⟩
theorem bk_at {w : World} {ao : Option Addr} {zs : List Bk} (h : BkS w ao zs) {t : Nat} {p : Bk} (hp : zs[t]? = some p) : ∃ g off, ao = some ⟨g, off, none⟩ ∧ w.cell? ⟨g, off + t * 3, none⟩ = some (.int .i64 p.addr) ∧ w.cell? ⟨g, off + t * 3 + 1, none⟩ = some (.int .i64 p.size) ∧ w.cell? ⟨g, off + t * 3 + 2, none⟩ = some (.bool p.free) := by
  obtain ⟨ht, e⟩ := List.getElem?_eq_some_iff.1 hp
  rcases h with h | ⟨g, off, e1, _, hc⟩
  · subst h; simp at ht
  · subst e
    exact ⟨g, off, e1, hc t ht⟩
theorem fn_at (G : Nat → Rw) (i t : Nat) (h : t < (G i).len) : (Fn G i)[t]? = some (mk1 i t) := by simp [Fn, h]
theorem hn_at1 (G : Nat → Rw) (i t k : Nat) (h : t < (G i).len) : (Hn G i k)[t]? = some (mk1 i t) := by
  unfold Hn
  rw [List.getElem?_append_left (by rw [Fn.len]; exact h)]
  exact fn_at G i t h
theorem hn_at2 (G : Nat → Rw) (i t k : Nat) (h : (G i).len ≤ t) (h2 : t < (G i).len + k) : (Hn G i k)[t]? = some (mk2 i (t - (G i).len)) := by
  unfold Hn
  rw [List.getElem?_append_right (by rw [Fn.len]; exact h), Fn.len]
  simp [show t - (G i).len < k by omega]
theorem struct_ne (a b : Int) (e : Bool) (w : World) : (binOp .neq 110 (.agg #[.int .i64 a, .int .i64 b, .bool e]) (.agg #[.int .i64 a, .int .i64 b, .bool e])).run Try.prog w = .ok (.bool false) w := by
  rw [run_neq_struct]
  have := run_equalIn_agg (P := Try.prog) w 9999 110 #[.int .i64 a, .int .i64 b, .bool e] #[.int .i64 a, .int .i64 b, .bool e] Bk.fof Bk.hld
  rw [show (10000 : Nat) = 9999 + 1 from rfl, this, show (9999 : Nat) = 9998 + 1 from rfl, Bk.flds]
  rfl
set_option maxRecDepth 100000 in
set_option maxHeartbeats 4000000 in
theorem grown_any {B N : Nat} (ga : Option Addr) (gc : Nat) (G : Nat → Rw) (X : Nat → List Bk) (w : World) (hN : N ≤ 1000) (hB : B ≤ w.heap.size) (hg : Sl w ga N (fun i => (G i).v)) (hR : Rows B N G X w) (hD : Dj N G) (hL : ∀ i, i < N → (G i).len ≤ 100000) :
    Calls Try.prog 48 #[.slice ga N gc] w fun e w' => e = .returned (.bool true) ∧ Turn (Ds N G) w w' := by
  have E1 : Hid (∀ k : Nat, k ≤ 1000000 → wrap64 ((k : Int) + 1) = (k : Int) + 1) := hide' (fun k hk => wrap_in' (by omega))
  have E3 : Hid (∀ k : Nat, k ≤ 1001 → wrap64 (-1 - (k : Int)) = -1 - (k : Int) ∧ wrap64 (-100 - (k : Int)) = -100 - (k : Int)) := hide' (fun k hk => ⟨wrap_in' (by omega), wrap_in' (by omega)⟩)
  have HN := hide' hN
  have HB := hide' hB
  have HG := hide' hg
  have HR := hide' hR
  have HD := hide' hD
  have HL := hide' hL
  have I0 : Hid (S2 B N G w 0 0 X w) := hide' ⟨hR, Turn.refl _ w, fun i _ h => by omega, fun j h => by omega⟩
  clear hN hB hg hR hD hL
  go_enter Try.func48, Try.ntmps48
  go_wp2_with fail
  go_loopw [3] (fun i wx => ∃ (p : Nat) (C : Nat → List Bk), i = .int .i64 (p : Int) ∧ p ≤ N ∧ S2 B N G w p 0 C wx) (fun i _ => N - (intOf i).toNat)
  case atStart => exact ⟨0, X, rfl, Nat.zero_le _, I0.out⟩
  case round =>
    obtain ⟨p, C, rfl, hp, hS⟩ := hrel
    have HS := hide' hS
    clear hS I0
    by_cases hlt : p < N
    · have hlt' : (p : Int) < (N : Int) := by omega
      have Hlt := hide' hlt
      clear hp
      go_wp2_with fail
      go_loopw [4] (fun i wx => ∃ (k : Nat) (C : Nat → List Bk), i = .int .i64 (k : Int) ∧ k ≤ (G p).len ∧ S2 B N G w p k C wx) (fun i _ => (G p).len - (intOf i).toNat)
      case atStart => exact ⟨0, C, rfl, Nat.zero_le _, HS.out⟩
      case round =>
        obtain ⟨k, C2, rfl, hk, hS2⟩ := hrel
        have HS2 := hide' hS2
        obtain ⟨gb, go, hga, hgc⟩ := (HG.out.turn hS2.tn (fun j cs r hh => HR.out.no88 j cs r hh)).get hlt
        unfold Rw.v at hgc
        subst hga
        clear hS2
        by_cases hkl : k < (G p).len
        · have hkl' : (k : Int) < ((G p).len : Int) := by omega
          have e1 := E1.out k (by have := HL.out p hlt; omega)
          have e2 := (E3.out p (by have := HN.out; omega)).1
          have Hend := hide' (msr' hkl _ e1)
          obtain ⟨g, u0, u1, u2, C3, hgp, hle, c0, c1, c2, hf, hS3⟩ := HS2.out.put HD.out hlt hkl
          obtain ⟨d1, f1, d2, f2⟩ := cells3 c0 c1 c2 hf (.int .i64 (-1 - (p : Int))) (.int .i64 (k : Int))
          have f0 := hf (k * 3)
          have HS3 := hide' hS3
          have Hk := hide' hkl
          generalize (G p).len = gl at *
          generalize (G p).cap = gp at *
          rw [hgp] at hgc
          clear hS3 hk hgp hle hf
          go_wp2_with fail
          exact ⟨⟨k + 1, C3, by first | rfl | (rw [e1]; rfl), Hk.out, HS3.out⟩, by first | exact Hend.out | (rw [← e1]; exact Hend.out)⟩
        · have hkl' : ¬ (k : Int) < ((G p).len : Int) := by omega
          have HS3 : Hid (S2 B N G w (p + 1) 0 C2 wr) := hide' (S2.next (by have := HS2.out; rw [show k = (G p).len by omega] at this; exact this) hlt)
          have e1 := E1.out p (by have := HN.out; omega)
          have Hend := hide' (msr' hlt _ e1)
          generalize (G p).len = gl at *
          clear hk hkl
          go_wp2_with fail
          exact ⟨⟨p + 1, C2, by first | rfl | (rw [e1]; rfl), Hlt.out, HS3.out⟩, by first | exact Hend.out | (rw [← e1]; exact Hend.out)⟩
    · have hlt' : ¬ (p : Int) < (N : Int) := by omega
      obtain ⟨hR2, hT2⟩ := HS.out.done (by omega)
      have I0 := hide' (S3.none_ hR2 hT2)
      clear hR2 hT2 HS hlt hp
      go_wp2_with fail
      go_loopw [5, 6] (fun lv i wx => ∃ (p sz : Nat) (L : Nat → Rw) (la : Option Addr) (lc : Nat), i = .int .i64 (p : Int) ∧ lv = .slice la p lc ∧ p ≤ N ∧ S3 B N G w p sz L la lc wx) (fun _ i _ => N - (intOf i).toNat)
      case atStart => exact ⟨0, _, G, none, 0, rfl, rfl, Nat.zero_le _, I0.out⟩
      case round =>
        obtain ⟨p, sz, L, la, lc, rfl, rfl, hp, hS⟩ := hrel
        have HS := hide' hS
        clear I0
        by_cases hlt : p < N
        · have hlt' : (p : Int) < (N : Int) := by omega
          have Hlt := hide' hlt
          obtain ⟨gb, go, hga, hgc⟩ := (HG.out.turn hS.tn (fun j cs r hh => HR.out.no88 j cs r hh)).get hlt
          unfold Rw.v at hgc
          subst hga
          clear hS hp
          go_wp2_with fail
          go_loopw [7, 8] (fun lv i wx => ∃ (k : Nat) (l : Rw), i = .int .i64 (k : Int) ∧ lv = .slice l.ao l.len l.cap ∧ k ≤ 64 ∧ S4 B N G w p sz L la lc k l wx) (fun _ i _ => 64 - (intOf i).toNat)
          case atStart => exact ⟨0, G p, rfl, rfl, by omega, HS.out.start hlt⟩
          case round =>
            obtain ⟨k, l, rfl, rfl, hk, hS4⟩ := hrel
            have H4 := hide' hS4
            clear hS4 HS
            by_cases hk12 : k < 64
            · have hk12' : (k : Int) < 64 := by omega
              have e1 := E1.out k (by omega)
              have e2 := (E3.out p (by have := HN.out; omega)).2
              have Hend := hide' (msr' hk12 _ e1)
              have HP := hide' hk12
              have HB' : Hid (B ≤ wr.heap.size) := hide' (Nat.le_trans HB.out H4.out.st.tn.size)
              have n1 : Hid (l.len < 1000000) := hide' (by have := H4.out.ll; have := HL.out p hlt; omega)
              have HLn : Hid ((Hn G p k).length = l.len) := hide' (by rw [Hn.len]; exact H4.out.ll.symm)
              clear hk
              go_wp2_with (at_builtin; refine wpList_bk wr rfl _ _ rfl HLn.out H4.out.own n1 HB'.out (mk2 p k) _ rfl rfl ?_; intro gg cap' w1 r1 t1 hg1; have K1 := hide' (H4.out.step HR.out HD.out Hlt.out r1 t1 hg1); clear r1 t1 hg1)
              exact ⟨⟨k + 1, ⟨some ⟨gg, 0, none⟩, l.len + 1, cap'⟩, by first | rfl | (rw [e1]; rfl), rfl, HP.out, K1.out⟩, by first | exact Hend.out | (rw [← e1]; exact Hend.out)⟩
            · have hk12' : ¬ (k : Int) < 64 := by omega
              have H4' : Hid (S4 B N G w p sz L la lc 64 l wr) := hide' (by have := H4.out; rw [show k = 64 by omega] at this; exact this)
              clear hk H4 hk12
              go_wp2_with (at_builtin; refine wpList_more (e := 88) (m := 1) Try.underlying93 info88 rfl (by omega) (by omega) wr rfl _ _ rfl H4'.out.st.row (by have := HN.out; have := Hlt.out; omega) H4'.out.st.tn.size [.slice l.ao l.len l.cap] rfl (by simp [Value.oneCell']) _ rfl rfl ?_; intro gg cap' w1 r1 t1 hg1; have K1 := hide' (H4'.out.st.more HR.out Hlt.out H4'.out r1 t1); clear r1 t1 hg1)
              have Hend := hide' (msr' hlt _ (E1.out p (by have := HN.out; omega)))
              exact ⟨⟨p + 1, _, _, _, _, by first | rfl | (rw [E1.out p (by have := HN.out; omega)]; rfl), rfl, Hlt.out, K1.out⟩, by first | exact Hend.out | (rw [← E1.out p (by have := HN.out; omega)]; exact Hend.out)⟩
        · obtain rfl : N = p := by omega
          have HT := hide' hS.tn
          have HGW := hide' (HG.out.turn hS.tn (fun j cs r hh => HR.out.no88 j cs r hh))
          have HLW := hide' (Sl.of_row (lc := lc) hS.row)
          have HI := hide' (fun i (hi : i < N) => (show (L i).len = (G i).len + 64 ∧ BkS wr (L i).ao (Hn G i 64) ∧ BkS wr (G i).ao (Fn G i) from ⟨(hS.lg i hi).1, (hS.lg i hi).2.1, BkS.of_row (hS.rows i hi).2⟩))
          clear hS HS hlt hp HG HD
          generalize wr = W at *
          go_wp2_with fail
          go_loopw [9] (fun i wx => ∃ k : Nat, i = .int .i64 (k : Int) ∧ k ≤ N ∧ ∃ m, wx = W.drewN m) (fun i _ => N - (intOf i).toNat)
          case atStart => exact ⟨0, rfl, Nat.zero_le _, 0, rfl⟩
          case round =>
            obtain ⟨k, rfl, hk, m, rfl⟩ := hrel
            by_cases hlt : k < N
            · have hlt' : (k : Int) < (N : Int) := by omega
              have e1 := E1.out k (by have := HN.out; omega)
              have Hend := hide' (msr' hlt _ e1)
              have Hlt := hide' hlt
              obtain ⟨gb, go, hga, hgc⟩ := HGW.out.get hlt
              obtain ⟨lb, lo, hla, hlc⟩ := HLW.out.get hlt
              unfold Rw.v at hgc hlc
              subst hga
              subst hla
              have HIk := hide' (HI.out k hlt)
              have Hll := hide' (HI.out k hlt).1
              have Hnl := hide' (HL.out k hlt)
              have Hgc := hide' hgc
              have Hlc := hide' hlc
              have q1 : (W.drewN m).cell? ⟨gb, go + k, none⟩ = some (.slice (G k).ao (G k).len (G k).cap) := hgc
              clear hk hgc hlc
              go_wp2_with fail
              clear q1
              go_loopw [11] (fun i wx => ∃ t : Nat, i = .int .i64 (t : Int) ∧ t ≤ (G k).len + 64 ∧ ∃ m, wx = W.drewN m) (fun i _ => (G k).len + 64 - (intOf i).toNat)
              case atStart => exact ⟨0, rfl, Nat.zero_le _, _, rfl⟩
              case round =>
                obtain ⟨t, rfl, ht, m2, rfl⟩ := hrel
                have c2 : (W.drewN m2).cell? ⟨lb, lo + k, none⟩ = some (.slice (L k).ao ((G k).len + 64) (L k).cap) := by have := Hlc.out; rw [Hll.out] at this; exact this
                by_cases htl : t < (G k).len + 64
                · have e2 := E1.out t (by have := Hnl.out; omega)
                  have e31 := (E3.out k (by have := HN.out; omega)).1
                  have e32 := (E3.out k (by have := HN.out; omega)).2
                  have Hend2 := hide' (msr' htl _ e2)
                  have Htl := hide' htl
                  have htl' : (t : Int) < (((G k).len + 64 : Nat) : Int) := by omega
                  by_cases htn : t < (G k).len
                  · have htn' : (t : Int) < ((G k).len : Int) := by omega
                    have htn2 : ¬ ((G k).len : Int) ≤ (t : Int) := by omega
                    obtain ⟨g1, o1, h1, a0, a1, a2⟩ := bk_at HIk.out.2.2 (fn_at G k t htn)
                    obtain ⟨g2, o2, h2, b0, b1, b2⟩ := bk_at HIk.out.2.1 (hn_at1 G k t 64 htn)
                    replace a0 : (W.drewN m2).cell? ⟨g1, o1 + t * 3, none⟩ = some (.int .i64 (-1 - (k : Int))) := a0
                    replace a1 : (W.drewN m2).cell? ⟨g1, o1 + t * 3 + 1, none⟩ = some (.int .i64 (t : Int)) := a1
                    replace a2 : (W.drewN m2).cell? ⟨g1, o1 + t * 3 + 2, none⟩ = some (.bool false) := a2
                    replace b0 : (W.drewN m2).cell? ⟨g2, o2 + t * 3, none⟩ = some (.int .i64 (-1 - (k : Int))) := b0
                    replace b1 : (W.drewN m2).cell? ⟨g2, o2 + t * 3 + 1, none⟩ = some (.int .i64 (t : Int)) := b1
                    replace b2 : (W.drewN m2).cell? ⟨g2, o2 + t * 3 + 2, none⟩ = some (.bool false) := b2
                    have c1 : (W.drewN m2).cell? ⟨gb, go + k, none⟩ = some (.slice (some ⟨g1, o1, none⟩) (G k).len (G k).cap) := by rw [← h1]; exact Hgc.out
                    have sn := hide' (struct_ne (-1 - (k : Int)) (t : Int) false)
                    have w31 : Hid (IntKind.wrap .i64 (-1 - (k : Int)) = -1 - (k : Int)) := hide' (by rw [IntKind.wrap_i64]; have := HN.out; have := Hlt.out; omega)
                    have Hfa := hide' (And.intro htn (And.intro htl Hlt.out))
                    have Hcs := hide' (And.intro c1 (And.intro a0 (And.intro a1 a2)))
                    have Hb := hide' (And.intro b0 (And.intro b1 b2))
                    rw [h2] at c2
                    have Hc2 := hide' c2
                    clear h1 h2 ht a0 a1 a2 b0 b1 b2 c1 e31 e32 htn' htn2
                    generalize (L k).cap = lcp at *
                    generalize (G k).cap = gcp at *
                    generalize (G k).len = n at *
                    go_wp2_with fail
                    refine g25a w31.out (by have := Hfa.out; omega) (by have := Hfa.out; omega) (by have := Hfa.out; omega) (by have := Hfa.out; omega) Hfa.out.1 Hfa.out.2.1 Hfa.out.2.2 sn.out ⟨Hcs.out.1, Hcs.out.2.1, Hcs.out.2.2.1, Hcs.out.2.2.2, Hc2.out, Hb.out.1, Hb.out.2.1, Hb.out.2.2⟩ ?_
                    clear c2
                    go_wp2_with fail
                    exact ⟨⟨t + 1, by first | rfl | (rw [e2]; rfl), Htl.out, m2 + 1, rfl⟩, by first | exact Hend2.out | (rw [← e2]; exact Hend2.out)⟩
                  · have htn' : ¬ (t : Int) < ((G k).len : Int) := by omega
                    have htn2 : ((G k).len : Int) ≤ (t : Int) := by omega
                    obtain ⟨g2, o2, h2, b0, b1, b2⟩ := bk_at HIk.out.2.1 (hn_at2 G k t 64 (by omega) htl)
                    have hsub : wrap64 ((t : Int) - ((G k).len : Int)) = ((t - (G k).len : Nat) : Int) := by have := Hnl.out; rw [wrap_in' (by omega)]; omega
                    replace b0 : (W.drewN m2).cell? ⟨g2, o2 + t * 3, none⟩ = some (.int .i64 (-100 - (k : Int))) := b0
                    replace b1 : (W.drewN m2).cell? ⟨g2, o2 + t * 3 + 1, none⟩ = some (.int .i64 ((t - (G k).len : Nat) : Int)) := b1
                    replace b2 : (W.drewN m2).cell? ⟨g2, o2 + t * 3 + 2, none⟩ = some (.bool false) := b2
                    have c1 : (W.drewN m2).cell? ⟨gb, go + k, none⟩ = some (.slice (G k).ao (G k).len (G k).cap) := Hgc.out
                    have sn := hide' (struct_ne (-100 - (k : Int)) ((t - (G k).len : Nat) : Int) false)
                    have w32 : Hid (IntKind.wrap .i64 (-100 - (k : Int)) = -100 - (k : Int)) := hide' (by rw [IntKind.wrap_i64]; have := HN.out; have := Hlt.out; omega)
                    have wsb : Hid (IntKind.wrap .i64 ((t : Int) - ((G k).len : Int)) = ((t - (G k).len : Nat) : Int)) := hide' (by rw [IntKind.wrap_i64]; have := Hnl.out; omega)
                    have Hfa := hide' (And.intro htn (And.intro htl Hlt.out))
                    have Hb := hide' (And.intro b0 (And.intro b1 b2))
                    rw [h2] at c2
                    have Hc2 := hide' c2
                    clear h2 ht b0 b1 b2 c1 e31 e32 htn' htn2 hsub
                    generalize t - (G k).len = td at *
                    generalize (L k).cap = lcp at *
                    generalize (G k).cap = gcp at *
                    generalize (G k).len = n at *
                    generalize (G k).ao = gao at *
                    go_wp2_with fail
                    refine g25b w32.out wsb.out (by have := Hfa.out; omega) (by have := Hfa.out; omega) (by have := Hfa.out; omega) (by have := Hfa.out; omega) (by have := Hfa.out; omega) Hfa.out.1 Hfa.out.2.1 Hfa.out.2.2 sn.out ⟨Hc2.out, Hb.out.1, Hb.out.2.1, Hb.out.2.2⟩ ?_
                    clear c2
                    go_wp2_with fail
                    exact ⟨⟨t + 1, by first | rfl | (rw [e2]; rfl), Htl.out, m2 + 1, rfl⟩, by first | exact Hend2.out | (rw [← e2]; exact Hend2.out)⟩
                · have htl' : ¬ (t : Int) < (((G k).len + 64 : Nat) : Int) := by omega
                  clear ht htl
                  generalize (L k).cap = lcp at *
                  generalize (L k).ao = lkao at *
                  generalize (G k).len = n at *
                  go_wp2_with fail
                  exact ⟨⟨k + 1, by first | rfl | (rw [e1]; rfl), Hlt.out, m2, rfl⟩, by first | exact Hend.out | (rw [← e1]; exact Hend.out)⟩
            · have hlt' : ¬ (k : Int) < (N : Int) := by omega
              clear hlt hk
              go_wp2
              go_ret
              exact ⟨rfl, HT.out.drewN _⟩
end Gr
end Go.Proofs.Ytfeehnfpfheojaa
