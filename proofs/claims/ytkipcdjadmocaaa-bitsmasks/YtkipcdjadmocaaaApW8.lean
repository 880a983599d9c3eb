import Derived.Test.YtkipcdjadmocaaaAp8
set_option linter.unusedVariables false
set_option linter.unusedSimpArgs false
namespace Go.Proofs.Ytkipcdjadmocaaa
open Go.RowKit
namespace A8
theorem info42 : (Try.prog.info? 42).map (fun i => (i.zero, i.size, i.bytes)) = some (some (.slice none 0 0), 1, 24) := by kernel_rfl
/-- a row of a slice of rows is read -/
theorem Sl.get {w : World} {a : Option Addr} {N : Nat} {f : Nat → Value} (h : Sl w a N f) {i : Nat} (hi : i < N) : ∃ b off, a = some ⟨b, off, none⟩ ∧ w.cell? ⟨b, off + i, none⟩ = some (f i) := by
  rcases h with h | ⟨b, off, cs, r, ha, hb, hc⟩
  · omega
  · exact ⟨b, off, ha, hc i hi⟩
theorem wrap_in {i : Int} (h0 : -9223372036854775808 ≤ i) (h1 : i ≤ 9223372036854775807) : wrap64 i = i := by unfold wrap64; omega
theorem w8 {i : Int} (h0 : -128 ≤ i) (h1 : i ≤ 127) : IntKind.wrap .i8 i = i := by
  by_cases hi : 0 ≤ i
  · have e : i % 256 = i := Int.emod_eq_of_lt hi (by omega)
    simp [IntKind.wrap, IntKind.signed, IntKind.bits, e]
    intro h
    omega
  · have e : i % 256 = i + 256 := by omega
    simp [IntKind.wrap, IntKind.signed, IntKind.bits, e]
    omega
set_option maxRecDepth 100000 in
set_option maxHeartbeats 4000000 in
theorem apart_any {B N : Nat} (ga : Option Addr) (gc : Nat) (G : Nat → Rw) (X : Nat → List Int) (w : World) (hN : N ≤ 5) (hB : B ≤ w.heap.size) (hg : Sl w ga N (fun i => (G i).v)) (hR : Rows B N G X w) (hD : Dj N G) (hL : ∀ i, i < N → (G i).len ≤ 16) :
    Calls Try.prog 18 #[.slice ga N gc] w fun e w' => e = .returned (.bool true) ∧ Turn (Ds N G) w w' := by
  have E1 : Hid (∀ k : Nat, k ≤ 17592186044000 → wrap64 ((k : Int) + 1) = (k : Int) + 1) := hide' (fun k hk => wrap_in (by omega) (by omega))
  have E3 : Hid (∀ k : Nat, k ≤ 5 → wrap64 (-1 - (k : Int)) = mk1 k ∧ wrap64 (50 + (k : Int)) = mk2 k ∧ IntKind.wrap .i8 (mk1 k) = mk1 k ∧ IntKind.wrap .i8 (mk2 k) = mk2 k) := hide' (fun k hk => ⟨wrap_in (by omega) (by omega), wrap_in (by omega) (by omega), w8 (by unfold mk1; omega) (by unfold mk1; omega), w8 (by unfold mk2; omega) (by unfold mk2; omega)⟩)
  have HN := hide' hN
  have HB := hide' hB
  have HG := hide' hg
  have HR := hide' hR
  have HD := hide' hD
  have HL := hide' hL
  have I0 : Hid (S2 B N G X w 0 0 X w) := hide' ⟨hR, Turn.refl _ w, fun i _ h => by omega, fun j h => by omega⟩
  clear hN hB hg hR hD hL
  go_enter Try.func18, Try.ntmps18
  go_wp2_with fail
  go_loopw [3] (fun i wx => ∃ (p : Nat) (C : Nat → List Int), i = .int .i64 (p : Int) ∧ p ≤ N ∧ S2 B N G X w p 0 C wx) (fun i _ => N - (intOf i).toNat)
  case atStart => exact ⟨0, X, rfl, Nat.zero_le _, I0.out⟩
  case round =>
    obtain ⟨p, C, rfl, hp, hS⟩ := hrel
    have HS := hide' hS
    have HE := hide' hp
    clear hS I0
    by_cases hlt : p < N
    · have hlt' : (p : Int) < (N : Int) := by omega
      have Hlt := hide' hlt
      clear hp
      go_wp2_with fail
      go_loopw [4] (fun i wx => ∃ (k : Nat) (C : Nat → List Int), i = .int .i64 (k : Int) ∧ k ≤ (G p).len ∧ S2 B N G X w p k C wx) (fun i _ => (G p).len - (intOf i).toNat)
      case atStart => exact ⟨0, C, rfl, Nat.zero_le _, HS.out⟩
      case round =>
        obtain ⟨k, C2, rfl, hk, hS2⟩ := hrel
        have HS2 := hide' hS2
        obtain ⟨gb, go, hga, hgc⟩ := (HG.out.turn hS2.tn (fun j cs r hh => HR.out.no23 j cs r hh)).get hlt
        unfold Rw.v at hgc
        subst hga
        clear hS2
        by_cases hkl : k < (G p).len
        · have hkl' : (k : Int) < ((G p).len : Int) := by omega
          have e1 := E1.out k (by have := HL.out p hlt; omega)
          have e2 := (E3.out p (by have := HN.out; omega)).1
          have e2' := (E3.out p (by have := HN.out; omega)).2.2.1
          have Hend := hide' (msr' hkl _ e1)
          obtain ⟨g, u, C3, hgp, hc, hf, hS3⟩ := HS2.out.put HD.out hlt hkl
          have HS3 := hide' hS3
          have Hk := hide' hkl
          generalize (G p).len = gl at *
          generalize (G p).cap = gp at *
          rw [hgp] at hgc
          clear hS3 hk hgp
          go_wp2_with fail
          exact ⟨⟨k + 1, C3, by first | rfl | (rw [e1]; rfl), Hk.out, HS3.out⟩, by first | exact Hend.out | (rw [← e1]; exact Hend.out)⟩
        · have hkl' : ¬ (k : Int) < ((G p).len : Int) := by omega
          have HS3 : Hid (S2 B N G X w (p + 1) 0 C2 wr) := hide' (S2.next (by have := HS2.out; rw [show k = (G p).len by omega] at this; exact this) hlt)
          have e1 := E1.out p (by have := HN.out; omega)
          have Hend := hide' (msr' hlt _ e1)
          generalize (G p).len = gl at *
          generalize (G p).cap = gp at *
          generalize (G p).ao = ga at *
          clear hk hkl
          go_wp2_with fail
          exact ⟨⟨p + 1, C2, by first | rfl | (rw [e1]; rfl), Hlt.out, HS3.out⟩, by first | exact Hend.out | (rw [← e1]; exact Hend.out)⟩
    · have hlt' : ¬ (p : Int) < (N : Int) := by omega
      obtain ⟨hR2, hT2⟩ := HS.out.done (by omega)
      have I0 := hide' (S3.none (X := X) hR2 hT2)
      clear hR2 hT2 HS hlt hp HE
      go_wp2_with fail
      go_loopw [5, 6] (fun lv i wx => ∃ (p sz : Nat) (L : Nat → Rw) (la : Option Addr) (lc : Nat), i = .int .i64 (p : Int) ∧ lv = .slice la p lc ∧ p ≤ N ∧ S3 B N G X w p sz L la lc wx) (fun _ i _ => N - (intOf i).toNat)
      case atStart => exact ⟨0, _, G, none, 0, rfl, rfl, Nat.zero_le _, I0.out⟩
      case round =>
        obtain ⟨p, sz, L, la, lc, rfl, rfl, hp, hS⟩ := hrel
        have HS := hide' hS
        clear I0
        by_cases hlt : p < N
        · have hlt' : (p : Int) < (N : Int) := by omega
          have Hlt := hide' hlt
          obtain ⟨gb, go, hga, hgc⟩ := (HG.out.turn hS.tn (fun j cs r hh => HR.out.no23 j cs r hh)).get hlt
          unfold Rw.v at hgc
          subst hga
          clear hS hp
          go_wp2_with fail
          go_loopw [7, 8] (fun lv i wx => ∃ (k : Nat) (l : Rw), i = .int .i64 (k : Int) ∧ lv = .slice l.ao l.len l.cap ∧ k ≤ 64 ∧ S4 B N G X w p sz L la lc k l wx) (fun _ i _ => 64 - (intOf i).toNat)
          case atStart => exact ⟨0, G p, rfl, rfl, by omega, HS.out.start hlt⟩
          case round =>
            obtain ⟨k, l, rfl, rfl, hk, hS4⟩ := hrel
            have H4 := hide' hS4
            clear hS4 HS
            by_cases hk64 : k < 64
            · have hk64' : (k : Int) < 64 := by omega
              have e1 := E1.out k (by omega)
              have e2 := (E3.out p (by have := HN.out; omega)).2.1
              have e2' := (E3.out p (by have := HN.out; omega)).2.2.2
              have Hend := hide' (msr' hk64 _ e1)
              have HP := hide' hk64
              have HB' : Hid (B ≤ wr.heap.size) := hide' (Nat.le_trans HB.out H4.out.st.tn.size)
              have n1 : Hid (l.len < 17592186044000) := hide' (by have := H4.out.ll; have := HL.out p hlt; omega)
              have HLn : Hid ((Hn G p k).length = l.len) := hide' (by rw [Hn.len]; exact H4.out.ll.symm)
              clear hk
              go_wp2_with (at_builtin; refine wpList_nump wr rfl _ _ rfl HLn.out H4.out.own n1 HB'.out (mk2 p) _ rfl rfl ?_; intro gg cap' w1 r1 t1 hg1; have K1 := hide' (H4.out.step HR.out HD.out Hlt.out r1 t1 hg1); clear r1 t1 hg1)
              exact ⟨⟨k + 1, ⟨some ⟨gg, 0, none⟩, l.len + 1, cap'⟩, by first | rfl | (rw [e1]; rfl), rfl, HP.out, K1.out⟩, by first | exact Hend.out | (rw [← e1]; exact Hend.out)⟩
            · have hk64' : ¬ (k : Int) < 64 := by omega
              have H4' : Hid (S4 B N G X w p sz L la lc 64 l wr) := hide' (by have := H4.out; rw [show k = 64 by omega] at this; exact this)
              clear hk H4 hk64
              go_wp2_with (at_builtin; refine wpList_more (e := 42) (m := 1) Try.underlying46 info42 rfl (by omega) wr rfl _ _ rfl H4'.out.st.row (hide' (by have := HN.out; have := Hlt.out; omega)) (.inr ⟨by omega, by have := HN.out; have := Hlt.out; omega⟩) H4'.out.st.tn.size [.slice l.ao l.len l.cap] rfl (by simp [Value.oneCell']) _ rfl rfl ?_; intro gg cap' w1 r1 t1 hg1; have K1 := hide' (H4'.out.st.more HR.out Hlt.out H4'.out r1 t1); clear r1 t1 hg1)
              have Hend := hide' (msr' hlt _ (E1.out p (by have := HN.out; omega)))
              exact ⟨⟨p + 1, _, _, _, _, by first | rfl | (rw [E1.out p (by have := HN.out; omega)]; rfl), rfl, Hlt.out, K1.out⟩, by first | exact Hend.out | (rw [← E1.out p (by have := HN.out; omega)]; exact Hend.out)⟩
        · obtain rfl : N = p := by omega
          have HT := hide' hS.tn
          have HGW := hide' (HG.out.turn hS.tn (fun j cs r hh => HR.out.no23 j cs r hh))
          have HLW := hide' (Sl.of_row hS.row)
          have HI := hide' (fun i (hi : i < N) => (show (L i).len = (G i).len + 64 ∧ Ints wr (L i).ao (Hn G i 64) ∧ Ints wr (G i).ao (List.replicate (G i).len (mk1 i)) from by
            have h3 := hS.rows.ints hi
            exact ⟨(hS.lg i hi).1, (hS.lg i hi).2.1, h3⟩))
          clear hS HS hlt hp HG HD
          generalize wr = W at *
          go_wp2_with fail
          go_loopw [9] (fun i wx => ∃ k : Nat, i = .int .i64 (k : Int) ∧ k ≤ N ∧ ∃ m, wx = W.drewN m) (fun i _ => N - (intOf i).toNat)
          case atStart => exact ⟨0, rfl, Nat.zero_le _, 0, rfl⟩
          case round =>
            obtain ⟨k, rfl, hk, m, rfl⟩ := hrel
            by_cases hlt : k < N
            · have hlt' : (k : Int) < (N : Int) := by omega
              have e1 := E1.out k (by have := HN.out; omega)
              have Hend := hide' (msr' hlt _ e1)
              have Hlt := hide' hlt
              obtain ⟨gb, go, hga, hgc⟩ := HGW.out.get hlt
              obtain ⟨lb, lo, hla, hlc⟩ := HLW.out.get hlt
              unfold Rw.v at hgc hlc
              subst hga
              subst hla
              have hI := HI.out k hlt
              have HIk := hide' hI
              have hll := hI.1
              have hnl := HL.out k hlt
              have q1 : (W.drewN m).cell? ⟨gb, go + k, none⟩ = some (.slice (G k).ao (G k).len (G k).cap) := hgc
              clear hI hk
              go_wp2_with fail
              clear q1
              go_loopw [11] (fun i wx => ∃ t : Nat, i = .int .i64 (t : Int) ∧ t ≤ (G k).len + 64 ∧ ∃ m, wx = W.drewN m) (fun i _ => (G k).len + 64 - (intOf i).toNat)
              case atStart => exact ⟨0, rfl, Nat.zero_le _, _, rfl⟩
              case round =>
                obtain ⟨t, rfl, ht, m2, rfl⟩ := hrel
                by_cases htl : t < (G k).len + 64
                · have e2 := E1.out t (by omega)
                  have e3 := (E3.out k (by have := HN.out; omega))
                  have e31 := e3.1
                  have e32 := e3.2.1
                  have e33 := e3.2.2.1
                  have e34 := e3.2.2.2
                  have Hend2 := hide' (msr' htl _ e2)
                  have Htl := hide' htl
                  have hll2 : (L k).len = (G k).len + 64 := hll
                  obtain ⟨lkb, lko, hlka, hlkc⟩ : ∃ b off, (L k).ao = some ⟨b, off, none⟩ ∧ W.cell? ⟨b, off + t, none⟩ = some (.int .i8 ((Hn G k 64).getD t 0)) := by
                    rcases HIk.out.2.1 with q | ⟨b, off, ha, _, hc⟩
                    · have := Hn.len G k 64
                      rw [q] at this
                      simp at this
                    · exact ⟨b, off, ha, hc t (by rw [Hn.len]; exact htl)⟩
                  by_cases htn : t < (G k).len
                  · have htn' : (t : Int) < ((G k).len : Int) := by omega
                    have htn2 : ¬ ((G k).len : Int) ≤ (t : Int) := by omega
                    have htl' : (t : Int) < (((G k).len + 64 : Nat) : Int) := by omega
                    obtain ⟨gkb, gko, hgka, hgkc⟩ : ∃ b off, (G k).ao = some ⟨b, off, none⟩ ∧ W.cell? ⟨b, off + t, none⟩ = some (.int .i8 (mk1 k)) := by
                      rcases HIk.out.2.2 with q | ⟨b, off, ha, _, hc⟩
                      · have := congrArg List.length q
                        simp at this
                        omega
                      · refine ⟨b, off, ha, ?_⟩
                        rw [hc t (by simpa using htn)]
                        simp [List.getD, htn]
                    have hval : (Hn G k 64).getD t 0 = mk1 k := by
                      rw [Hn, List.getD, List.getElem?_append_left (by simpa using htn)]
                      simp [htn]
                    rw [hval] at hlkc
                    have c1 : (W.drewN m2).cell? ⟨gb, go + k, none⟩ = some (.slice (some ⟨gkb, gko, none⟩) (G k).len (G k).cap) := by rw [← hgka]; exact hgc
                    have c2 : (W.drewN m2).cell? ⟨lb, lo + k, none⟩ = some (.slice (some ⟨lkb, lko, none⟩) ((G k).len + 64) (L k).cap) := by rw [← hlka, ← hll2]; exact hlc
                    have c3 : (W.drewN m2).cell? ⟨gkb, gko + t, none⟩ = some (.int .i8 (mk1 k)) := hgkc
                    have c4 : (W.drewN m2).cell? ⟨lkb, lko + t, none⟩ = some (.int .i8 (mk1 k)) := hlkc
                    clear HIk HI hll hll2 hlka hgka hlkc hgkc hgc hlc hval ht e3
                    generalize (L k).cap = lcp at *
                    generalize (G k).cap = gcp at *
                    generalize (G k).len = n at *
                    generalize mk1 k = mv at *
                    go_wp2_with fail
                    exact ⟨⟨t + 1, by first | rfl | (rw [e2]; rfl), Htl.out, m2, rfl⟩, by first | exact Hend2.out | (rw [← e2]; exact Hend2.out)⟩
                  · have htn' : ¬ (t : Int) < ((G k).len : Int) := by omega
                    have htn2 : ((G k).len : Int) ≤ (t : Int) := by omega
                    have htl' : (t : Int) < (((G k).len + 64 : Nat) : Int) := by omega
                    have hval : (Hn G k 64).getD t 0 = mk2 k := by
                      rw [Hn, List.getD, List.getElem?_append_right (by simpa using htn), List.getElem?_replicate, if_pos (by simp; omega)]
                      rfl
                    rw [hval] at hlkc
                    have c1 : (W.drewN m2).cell? ⟨gb, go + k, none⟩ = some (.slice (G k).ao (G k).len (G k).cap) := hgc
                    have c2 : (W.drewN m2).cell? ⟨lb, lo + k, none⟩ = some (.slice (some ⟨lkb, lko, none⟩) ((G k).len + 64) (L k).cap) := by rw [← hlka, ← hll2]; exact hlc
                    have c4 : (W.drewN m2).cell? ⟨lkb, lko + t, none⟩ = some (.int .i8 (mk2 k)) := hlkc
                    clear HIk HI hll hll2 hlka hlkc hgc hlc hval ht e3
                    generalize (L k).cap = lcp at *
                    generalize (G k).cap = gcp at *
                    generalize (G k).len = n at *
                    generalize (G k).ao = gao at *
                    generalize mk2 k = mv at *
                    go_wp2_with fail
                    exact ⟨⟨t + 1, by first | rfl | (rw [e2]; rfl), Htl.out, m2, rfl⟩, by first | exact Hend2.out | (rw [← e2]; exact Hend2.out)⟩
                · have htl' : ¬ (t : Int) < (((G k).len + 64 : Nat) : Int) := by omega
                  have c2 : (W.drewN m2).cell? ⟨lb, lo + k, none⟩ = some (.slice (L k).ao ((G k).len + 64) (L k).cap) := by rw [← hll]; exact hlc
                  clear HIk HI hll hgc hlc ht htl
                  generalize (L k).cap = lcp at *
                  generalize (L k).ao = lkao at *
                  generalize (G k).len = n at *
                  go_wp2_with fail
                  exact ⟨⟨k + 1, by first | rfl | (rw [e1]; rfl), Hlt.out, m2, rfl⟩, by first | exact Hend.out | (rw [← e1]; exact Hend.out)⟩
            · have hlt' : ¬ (k : Int) < (N : Int) := by omega
              clear hlt hk
              go_wp2
              go_ret
              exact ⟨rfl, HT.out.drewN _⟩
end A8
end Go.Proofs.Ytkipcdjadmocaaa
