import Derived.Test.YtahjhnikckmneaaApl
set_option linter.unusedVariables false
set_option linter.unusedSimpArgs false
namespace Go.Proofs.Ytahjhnikckmneaa
open Go.RowKit Go.Maps
namespace L
set_option maxRecDepth 100000 in
set_option maxHeartbeats 16000000 in
theorem apart_any (gg gcap n : Nat) (us : List A2) (C : Nat → List ByteArray) (wo : Option Addr) (wcap : Nat) (w : World) (hus : us.length = n) (h : Gt gg us C w) (hw : Wt wo ((List.range n).map C) (Ls us) w) (hgc : n ≤ gcap) (hwc : n ≤ wcap) (hlen : Hid (n ≤ 1048576 ∧ ∀ i, (C i).length ≤ 1073741824)) :
    Calls Try.prog 17 #[.slice (some ⟨gg, 0, none⟩) n gcap, .slice wo n wcap] w fun e w' => e = .returned (.bool true) ∧ Turn (Ls us) w w' := by
  have H := hide' h
  have HW := hide' hw
  have hn64 : (n : Int) ≤ 1048576 := by have := hlen.out.1; omega
  have hul : Hid (∀ i, i < n → ∃ a, us[i]? = some a) := fun i hi => ⟨_, List.getElem?_eq_getElem (by omega)⟩
  have hwl : Hid (∀ i, i < n → ((List.range n).map C)[i]? = some (C i)) := fun i hi => by rw [List.getElem?_map, List.getElem?_range hi]; rfl
  clear h hw
  go_enter Try.func17, Try.ntmps17
  go_wp2_with fail
  go_loopw [5] (fun i wx => ∃ k m : Nat, k ≤ n ∧ i = .int .i64 (k : Int) ∧ wx = w.drewN m) (fun i _ => n - (intOf i).toNat)
  case atStart => exact ⟨0, 0, by omega, rfl, rfl⟩
  case round =>
    obtain ⟨k, m, hk, rfl, rfl⟩ := hrel
    by_cases hlt : k < n
    · have hlt' : (k : Int) < (n : Int) := by omega
      obtain ⟨a, ha⟩ := hul.out k hlt
      have c1 := H.out.cell k a ha
      obtain ⟨wb, off, ro, rc, rfl, _, _, c2, hrc, hI⟩ := HW.out.at (hwl.out k hlt)
      have c1V : (w.drewN m).cell? ⟨gg, k, none⟩ = some (.slice a.1 (C k).length a.2) := c1
      have c2V : (w.drewN m).cell? ⟨wb, off + k, none⟩ = some (.slice ro (C k).length rc) := c2
      have hS : Hid (Calls Try.prog 19 #[.slice a.1 (C k).length a.2, .slice ro (C k).length rc] (w.drewN m).drew fun e w' => e = .returned (.bool true) ∧ ∃ n, w' = (w.drewN m).drew.drewN n) := S.same_any (C k).length a.1 ro a.2 rc (C k) ((w.drewN m).drew) rfl ((H.out.each k a ha).ints.drewN (m + 1)) (hI.drewN (m + 1)) (H.out.each k a ha).cap hrc (by have := hlen.out.2 k; show _ < _; omega)
      have hV : Hid (∀ q, ((w.drewN m).drew.drewN q) = w.drewN (m + 1 + q)) := fun q => by rw [show (w.drewN m).drew = w.drewN (m + 1) from rfl, World.drewN_drewN]
      clear ha hI c1 c2
      generalize hVV : w.drewN m = V at *
      have HVV := hide' hVV
      clear hVV
      go_wp2_with fail
      go_region_held3 (fun w' => w'.cell? ⟨gg, k, none⟩ = some (.slice a.1 (C k).length a.2) ∧ w'.cell? ⟨wb, off + k, none⟩ = some (.slice ro (C k).length rc)) (first | go_keep) (first | (go_at_call 19; refine hS.out.mono ?_; rintro e W1 ⟨rfl, n1, rfl⟩))
      go_wp2_with fail
      exact ⟨⟨k + 1, m + (1 + n1), by omega, by go_num, by rw [← HVV.out, World.drewN_drewN]⟩, by simp [intOf]; omega⟩
    · have hkn : n = k := by omega
      subst hkn
      have hlt' : ¬ (n : Int) < (n : Int) := by omega
      have H1 := hide' (And.intro (H.out.drewN m) (And.intro (HW.out.turn ((Turn.refl (fun _ => False) w).drewN m) (fun _ _ q => q.elim)) ((Turn.refl (Ls us) w).drewN m)))
      clear hlt hk
      generalize w.drewN m = W at *
      go_wp2_with fail
      go_loopw [7] (fun i wx => ∃ h : Nat, i = .int .i64 ((2 * h : Nat) : Int) ∧ 2 * h ≤ n + 1 ∧ Gt gg us (C1 C (2 * h)) wx ∧ Wt wo ((List.range n).map C) (Ls us) wx ∧ Turn (Ls us) w wx) (fun i _ => n + 2 - (intOf i).toNat)
      case atStart => exact ⟨0, rfl, by omega, by have e : C1 C (2 * 0) = C := (by funext j; unfold C1; rw [if_neg (by omega)]); rw [e]; exact H1.out.1, H1.out.2.1, H1.out.2.2⟩
      case round =>
        obtain ⟨h, rfl, hh, hG, hWt, hT⟩ := hrel
        by_cases hlt : 2 * h < n
        · have hlt' : ((2 * h : Nat) : Int) < (n : Int) := by omega
          obtain ⟨i, hi⟩ : ∃ i, 2 * h = i := ⟨_, rfl⟩
          rw [hi] at hG hlt hlt' hh ⊢
          have hev : Hid (i % 2 = 0) := by show _ = _; omega
          obtain ⟨a, ha⟩ := hul.out i hlt
          have H2 := hide' (And.intro hG (And.intro hWt hT))
          have hCl := hlen.out.2 i
          have hcl64 : ((C i).length : Int) ≤ 1073741824 := by omega
          have Ha := hide' ha
          clear hG hWt hT hCl ha
          go_wp2_with fail
          go_loopw [8] (fun q wx => ∃ k : Nat, q = .int .i64 (k : Int) ∧ k ≤ (C i).length ∧ Gt gg us (C2 C i k) wx ∧ Wt wo ((List.range n).map C) (Ls us) wx ∧ Turn (Ls us) w wx) (fun q _ => (C i).length - (intOf q).toNat)
          case atStart => exact ⟨0, rfl, by omega, by rw [C2_zero]; exact H2.out.1, H2.out.2⟩
          case round =>
            obtain ⟨k, rfl, hkl, hG, hWt, hT⟩ := hrel
            have c1 := hG.cell i a Ha.out
            rw [C2_len C i k i hkl] at c1
            by_cases hlt2 : k < (C i).length
            · have hlt2' : (k : Int) < ((C i).length : Int) := by omega
              have hrow := hG.each i a Ha.out
              obtain ⟨z, hz⟩ : ∃ z, (C2 C i k i)[k]? = some z := ⟨_, List.getElem?_eq_getElem (by rw [C2_len C i k i hkl]; exact hlt2)⟩
              obtain ⟨g, hg0, cz, hgc2, _, hgl⟩ := S.row_at hrow hz
              rw [C2_len C i k i hkl] at hgc2
              obtain ⟨a1, a2⟩ := a
              simp only at hg0 c1 hgc2
              subst hg0
              have fz : wr.frozen? ⟨g, k, none⟩ = false := frozenS hrow k
              have Hm : Hid (∀ m, Calls Try.prog 49 #[.int .i64 (i : Int), .string ⟨#[109, 97, 114, 107]⟩] (wr.drewN m) fun e w' => e = .returned (.string (mk i ME)) ∧ w' = wr.drewN m) := fun m => mark_any i ME (wr.drewN m) (by have := hlen.out.1; show _ ≤ _; omega) (by show _ ≤ _; decide)
              have H3 := hide' (And.intro hG (And.intro hWt hT))
              clear hrow hz hG hWt hT
              have hgne : g ≠ gg := fun e => H3.out.1.out i _ Ha.out ⟨_, rfl, e.symm⟩
              have hMd : Hid (Calls Try.prog 49 #[.int .i64 (i : Int), .string ⟨#[109, 97, 114, 107]⟩] wr.drew fun e w' => e = .returned (.string (mk i ME)) ∧ w' = wr.drew) := Hm.out 1
              generalize hmk : mk i ME = mki at *
              have HMK := hide' hmk
              clear hmk
              go_wp2_with fail
              go_region_held3 (fun w' => w'.cell? ⟨gg, i, none⟩ = some (.slice (some ⟨g, 0, none⟩) (C i).length a2) ∧ w'.frozen? ⟨g, k, none⟩ = false) (first | go_keep) (first | (go_at_call 49; refine hMd.out.mono ?_; rintro e W1 ⟨rfl, hW1⟩; replace hW1 := hW1.symm; subst hW1))
              have tp : Turn (fun j => j = g) wr (wr.setCell ⟨g, k, none⟩ (.string mki)).drew := ((Turn.refl (fun j => j = g) wr).setCell (p := ⟨g, k, none⟩) (fun _ => rfl) _).drew
              have hLs : Ls us g := ⟨i, _, Ha.out, ⟨_, rfl, rfl⟩⟩
              have G4 : Hid (Gt gg us (C2 C i (k + 1)) (wr.setCell ⟨g, k, none⟩ (.string mki)).drew ∧ Wt wo ((List.range n).map C) (Ls us) (wr.setCell ⟨g, k, none⟩ (.string mki)).drew ∧ Turn (Ls us) w (wr.setCell ⟨g, k, none⟩ (.string mki)).drew) := by
                refine ⟨?_, H3.out.2.1.turn tp (fun j _ q => by rw [q]; exact hLs), H3.out.2.2.then tp (fun j _ q => by rw [q]; exact hLs)⟩
                rw [← C2_step C i k hlt2, ← HMK.out]
                exact (H3.out.1.put Ha.out k (mk i ME) (by rw [C2_len C i k i hkl]; exact hlt2)).drewN 1
              clear tp hLs
              generalize (wr.setCell ⟨g, k, none⟩ (.string mki)).drew = V at *
              go_wp2_with fail
              exact ⟨⟨k + 1, by go_num, by omega, G4.out⟩, by simp [intOf]; omega⟩
            · have hkn : (C i).length = k := by omega
              subst hkn
              have hlt2' : ¬ ((C i).length : Int) < ((C i).length : Int) := by omega
              have K : Hid (Gt gg us (C1 C (2 * (h + 1))) wr ∧ Wt wo ((List.range n).map C) (Ls us) wr ∧ Turn (Ls us) w wr) := ⟨by rw [show 2 * (h + 1) = i + 2 by omega, ← C2_full C i hev.out]; exact hG, hWt, hT⟩
              clear hG hWt hT
              go_wp2_with fail
              exact ⟨⟨h + 1, by go_num, by omega, K.out⟩, by simp [intOf]; omega⟩
        · have hlt' : ¬ ((2 * h : Nat) : Int) < (n : Int) := by omega
          have H5 : Hid (Gt gg us (CM C) wr ∧ Wt wo ((List.range n).map C) (Ls us) wr ∧ Turn (Ls us) w wr) := ⟨hG.congr (fun i a q => by
            have hi : i < us.length := (List.getElem?_eq_some_iff.1 q).1
            unfold C1 CM
            by_cases e : i % 2 = 0
            · rw [if_pos ⟨by omega, e⟩, if_pos e]
            · rw [if_neg (fun q => e q.2), if_neg e]), hWt, hT⟩
          clear hG hWt hT H1 H HW hlt hh
          have hst : Hid ((∀ (i j : Nat) (a b : A2), us[i]? = some a → us[j]? = some b → i ≠ j → ∀ k, S.At a.1 k → ¬ S.At b.1 k) ∧ ∀ (i : Nat) (a : A2), us[i]? = some a → ¬ S.At a.1 gg) := ⟨H5.out.1.rr, H5.out.1.out⟩
          have hcp : Hid (∀ (j : Nat) (a : A2), us[j]? = some a → (C j).length ≤ a.2) := fun j a q => by have := (H5.out.1.each j a q).cap; rw [CM_len] at this; exact this
          have hsw : Hid (w.heap.size ≤ wr.heap.size) := H5.out.2.2.size
          obtain ⟨W0, hW0⟩ : ∃ W0, W0 = wr.heap.size := ⟨_, rfl⟩
          have H6 : Hid (Lg gg us C 0 W0 none 0 (fun _ => (none, 0)) wr ∧ Wt wo ((List.range n).map C) (fun j => Ls us j ∨ W0 ≤ j) wr ∧ Turn (Ls us) w wr) := ⟨by rw [hW0]; exact Lg.start H5.out.1, by rw [hW0]; exact H5.out.2.1.wide, H5.out.2.2⟩
          have hWw : Hid (w.heap.size ≤ W0) := by rw [hW0]; exact hsw.out
          clear H5 hsw hW0
          go_wp2_with fail
          go_loopw [9, 10] (fun lg i wx => ∃ (k : Nat) (lo : Option Addr) (lcap : Nat) (lf : Nat → A2), i = .int .i64 (k : Int) ∧ k ≤ n ∧ lg = .slice lo k lcap ∧ Lg gg us C k W0 lo lcap lf wx ∧ Wt wo ((List.range n).map C) (fun j => Ls us j ∨ W0 ≤ j) wx ∧ Turn (Ls us) w wx) (fun _ i _ => n - (intOf i).toNat)
          case atStart => exact ⟨0, none, 0, _, rfl, by omega, rfl, H6.out⟩
          case round =>
            obtain ⟨k, lo, lcap, lf, rfl, hkn, rfl, hL, hWt, hT⟩ := hrel
            by_cases hlt : k < n
            · have hlt' : (k : Int) < (n : Int) := by omega
              obtain ⟨a, ha⟩ := hul.out k hlt
              have c1 := hL.gcell k a ha
              have hcl := hlen.out.2 k
              have hcm := CM_len C k
              have hcl64 : ((CM C k).length : Int) ≤ 1073741824 := by omega
              have H7 := hide' (And.intro hL (And.intro hWt hT))
              have hR := hL.rows k a ha (Nat.le_refl _)
              have HR := hide' (And.intro hR (hL.ints k a ha))
              have Ha := hide' ha
              obtain ⟨a1, a2⟩ := a
              simp only at c1
              clear hL hWt hT ha hcl hcm hR H6
              rcases (show k % 2 = 0 ∨ k % 2 = 1 by omega) with hev | hod
              · have hm0 : (k : Int).tmod 2 = 0 := by rw [Int.tmod_eq_emod_of_nonneg (by omega)]; omega
                have hD : Hid (DM C k = CM C k ++ List.replicate 12 (mk k MO)) := by show _ = _; unfold DM; rw [if_pos hev]
                have Hm : Hid (∀ V, Calls Try.prog 49 #[.int .i64 (k : Int), .string ⟨#[109, 111, 114, 101]⟩] V fun e w' => e = .returned (.string (mk k MO)) ∧ w' = V) := fun V => mark_any k MO V (by have := hlen.out.1; show _ ≤ _; omega) (by show _ ≤ _; decide)
                rename World => V0
                have hul1 : Hid (∀ b, S.At a1 b → b < W0) := fun b q => H7.out.1.ul k _ Ha.out b q
                have h0 : Hid (a1 = none ∨ ∃ g, a1 = some ⟨g, 0, none⟩) := by
                  rcases HR.out.1.form with ⟨e, _⟩ | ⟨g, e, _⟩
                  · exact .inl e
                  · exact .inr ⟨g, e⟩
                have hWr : Hid (W0 ≤ V0.heap.size) := H7.out.1.sz
                generalize hMM : mk k MO = M at *
                clear hMM
                go_wp2_with fail
                go_loopw [11, 12] (fun l q wx => ∃ (j : Nat) (la : Option Addr) (lc : Nat), q = .int .i64 (j : Int) ∧ j ≤ 12 ∧ l = .slice la ((CM C k).length + j) lc ∧ S.RowI 0 la lc (CM C k ++ List.replicate j M) wx ∧ Turn (fun b => S.At a1 b ∨ V0.heap.size ≤ b) V0 wx ∧ S.Ints a1 (CM C k) wx ∧ (la = a1 ∨ ∃ g, la = some ⟨g, 0, none⟩ ∧ V0.heap.size ≤ g)) (fun _ q _ => 12 - (intOf q).toNat)
                case atStart => exact ⟨0, a1, a2, rfl, by omega, rfl, by simpa using HR.out.1, Turn.refl _ _, HR.out.2, .inl rfl⟩
                case round =>
                  obtain ⟨j, la, lc, rfl, hj, rfl, h8⟩ := hrel
                  have H8 := hide' h8
                  clear h8
                  by_cases hj2 : j < 12
                  · have hj2' : (j : Int) < 12 := by omega
                    have hlen8 : Hid ((CM C k ++ List.replicate j M).length = (CM C k).length + j) := by show _ = _; simp
                    go_wp2_with (first | (go_at_call 49; refine (Hm.out _).mono ?_; rintro e W1 ⟨rfl, hW1⟩; subst hW1) | (at_builtin; refine S.wpList_app1k _ rfl _ _ rfl 0 la lc ((CM C k).length + j) (CM C k ++ List.replicate j M) M _ _ hlen8 rfl H8.out.1 rfl (by show _ < _; rw [hlen8.out]; omega) (Nat.zero_le _) ?_; intro g cap2 w2 r2 t2 hg2 hi2; have E2 := hide' (And.intro r2 (And.intro t2 (And.intro hg2 hi2))); clear r2 t2 hg2 hi2))
                    have hAt : ∀ b, S.At la b → S.At a1 b ∨ V0.heap.size ≤ b := fun b q => by
                      rcases H8.out.2.2.2 with e | ⟨g, e, hg⟩
                      · rw [e] at q; exact .inl q
                      · obtain ⟨x, ex, rb⟩ := q
                        rw [e] at ex; cases ex
                        right; rw [rb]; exact hg
                    refine ⟨⟨j + 1, some ⟨g, 0, none⟩, cap2, by go_num, by omega, rfl, by rw [List.replicate_succ', ← List.append_assoc]; exact E2.out.1, H8.out.2.1.then E2.out.2.1 (fun b _ q => hAt b q), keepS H8.out.2.2.2 H8.out.2.2.1 h0.out E2.out.2.1 E2.out.2.2.2 hul1.out hWr.out, ?_⟩, by simp [intOf]; omega⟩
                    rcases E2.out.2.2.1 with e | e
                    · rcases H8.out.2.2.2 with e' | ⟨g', e', hg⟩
                      · exact .inl (by rw [← e, e'])
                      · exact .inr ⟨g, rfl, by rw [e] at e'; cases e'; exact hg⟩
                    · exact .inr ⟨g, rfl, Nat.le_trans H8.out.2.1.size e⟩
                  · have hj3 : j = 12 := by omega
                    subst hj3
                    have hj2' : ¬ ((12 : Nat) : Int) < 12 := by omega
                    have hDl : (DM C k).length = (CM C k).length + 12 := by rw [hD.out]; simp
                    have hz : W0 ≤ wr.heap.size := Nat.le_trans hWr.out H8.out.2.1.size
                    have hrl := H7.out.1.longAt Ha.out H8.out.2.1
                    have Hrl := hide' hrl
                    clear hrl
                    go_wp2_with (at_builtin; refine wpList_appR _ rfl _ _ rfl W0 lo lcap k _ la ((CM C k).length + 12) lc _ _ rfl Hrl.out rfl (by show _ < _; omega) hz ?_; intro g cap' w3 r3 t3 hg3 hl3; have E3 := hide' (And.intro r3 (And.intro t3 hg3)); clear r3 t3 hg3 hl3)
                    have hnx := H7.out.1.next hst.out.1 hst.out.2 Ha.out H8.out.2.1 H8.out.2.2.1 (la := la) (lc := lc) (by rw [hD.out]; exact H8.out.1.ints) (by rw [hD.out]; exact H8.out.1.cap) (fun b q => ⟨by
                      rcases H8.out.2.2.2 with e | ⟨g, e, hg⟩
                      · rw [e] at q; exact .inl q
                      · obtain ⟨x, ex, rb⟩ := q
                        rw [e] at ex; cases ex
                        right; rw [rb]; exact hg, (H8.out.1.lt b q).2⟩) (by rw [hDl]; exact E3.out.1) E3.out.2.1 E3.out.2.2
                    have hlo := longLt Hrl.out
                    refine ⟨⟨k + 1, some ⟨g, 0, none⟩, cap', _, by go_num, by omega, rfl, hnx, (H7.out.2.1.turn H8.out.2.1 (fun b hb q => ?_)).turn E3.out.2.1 (fun b _ q => .inr (hlo b q).1), (H7.out.2.2.then H8.out.2.1 (fun b hb q => ?_)).then E3.out.2.1 (fun b hb q => by have := (hlo b q).1; have := hWw.out; omega)⟩, by simp [intOf]; omega⟩
                    · rcases q with q | q
                      · exact .inl ⟨k, _, Ha.out, q⟩
                      · omega
                    · rcases q with q | q
                      · exact ⟨k, _, Ha.out, q⟩
                      · have := hWw.out; have := hWr.out; omega
              · have hm1 : (k : Int).tmod 2 = 1 := by rw [Int.tmod_eq_emod_of_nonneg (by omega)]; omega
                have hm2 : ¬ (k : Int).tmod 2 = 0 := by omega
                have hD : Hid (DM C k = CM C k) := by show _ = _; unfold DM; rw [if_neg (by omega), List.append_nil]
                go_wp2_with fail
                go_loopw [11, 12] (fun l q wx => l = .slice a1 (CM C k).length a2 ∧ q = .int .i64 0 ∧ wx = wr) (fun _ _ _ => 0)
                case atStart => exact ⟨rfl, rfl, rfl⟩
                case round =>
                  obtain ⟨rfl, rfl, rfl⟩ := hrel
                  have hz := H7.out.1.sz
                  go_wp2_with (at_builtin; refine wpList_appR _ rfl _ _ rfl W0 lo lcap k _ a1 (CM C k).length a2 _ _ rfl H7.out.1.long rfl (by show _ < _; omega) hz ?_; intro g cap' w3 r3 t3 hg3 hl3; have E3 := hide' (And.intro r3 (And.intro t3 hg3)); clear r3 t3 hg3 hl3)
                  have hnx := H7.out.1.next hst.out.1 hst.out.2 Ha.out (Turn.refl _ _) HR.out.2 (la := a1) (lc := a2) (by rw [hD.out]; exact HR.out.2) (by rw [hD.out]; exact HR.out.1.cap) (fun b q => ⟨.inl q, (HR.out.1.lt b q).2⟩) (by rw [hD.out]; exact E3.out.1) E3.out.2.1 E3.out.2.2
                  have hlo := longLt H7.out.1.long
                  exact ⟨⟨k + 1, some ⟨g, 0, none⟩, cap', _, by go_num, by omega, rfl, hnx, H7.out.2.1.turn E3.out.2.1 (fun j _ q => .inr (hlo j q).1), H7.out.2.2.then E3.out.2.1 (fun j hj q => by have := (hlo j q).1; have := hWw.out; omega)⟩, by simp [intOf]; omega⟩
            · have hkn2 : n = k := by omega
              subst hkn2
              have hlt' : ¬ (n : Int) < (n : Int) := by omega
              have H9 := hide' (And.intro hL (And.intro hWt hT))
              clear hL hWt hT hlt hkn H6
              rename World => V0
              go_wp2_with fail
              go_loopw [13] (fun i wx => ∃ k m : Nat, k ≤ n ∧ i = .int .i64 (k : Int) ∧ wx = V0.drewN m) (fun i _ => n - (intOf i).toNat)
              case atStart => exact ⟨0, 0, by omega, rfl, rfl⟩
              case round =>
                obtain ⟨k, m, hk, rfl, rfl⟩ := hrel
                by_cases hlt : k < n
                · have hlt' : (k : Int) < (n : Int) := by omega
                  obtain ⟨a, ha⟩ := hul.out k hlt
                  have c1 := H9.out.1.gcell k a ha
                  have hI1 := hide' (H9.out.1.ints k a ha)
                  have Ha := hide' ha
                  obtain ⟨a1, a2⟩ := a
                  simp only at c1 hI1
                  clear ha
                  rcases (show k % 2 = 0 ∨ k % 2 = 1 by omega) with hev | hod
                  · have hm0 : (k : Int).tmod 2 = 0 := by rw [Int.tmod_eq_emod_of_nonneg (by omega)]; omega
                    have hn1 : (DM C k).length = (CM C k).length + 12 := by unfold DM; rw [if_pos hev]; simp
                    have hl0 : (CM C k).length ≤ 1073741824 := by rw [CM_len]; exact hlen.out.2 k
                    have hcpk := hcp.out k _ Ha.out
                    rw [← CM_len C k] at hcpk
                    obtain ⟨g, hlo, hlc, hgc2⟩ : ∃ g, lo = some ⟨g, 0, none⟩ ∧ V0.cell? ⟨g, k, none⟩ = some (.slice (lf k).1 (DM C k).length (lf k).2) ∧ n ≤ lcap := by
                      obtain ⟨g, cap', hv, _, _⟩ := World.ownsRow.form H9.out.1.long (by omega)
                      cases hv
                      refine ⟨g, rfl, ?_, ?_⟩
                      · rw [World.ownsRow.cellAt H9.out.1.long k (by omega), List.getElem?_map, List.getElem?_range hlt]; rfl
                      · rcases H9.out.1.long.2 with ⟨hv, _⟩ | ⟨g', c', cur, hv, _, _, _, hc⟩
                        · cases hv
                        · cases hv; omega
                    subst hlo
                    obtain ⟨hI2, hc2, hrest⟩ := H9.out.1.lints k hlt
                    clear hrest
                    have HI2 := hide' hI2
                    have hG1 : Hid (∀ j, j < (CM C k).length → (CM C k)[j]? = some (mk k ME) ∧ (DM C k)[j]? = some (mk k ME)) := fun j hj => by
                      have e : (CM C k)[j]? = some (mk k ME) := by
                        rw [CM_len] at hj
                        unfold CM; rw [if_pos hev, List.getElem?_replicate, if_pos hj]
                      exact ⟨e, by unfold DM; rw [List.getElem?_append_left hj]; exact e⟩
                    have hG2 : Hid (∀ j, ¬ j < (CM C k).length → j < (DM C k).length → (DM C k)[j]? = some (mk k MO)) := fun j hj hj2 => by
                      unfold DM; rw [List.getElem?_append_right (by omega), if_pos hev, List.getElem?_replicate, if_pos (by omega)]
                    have Hm1 : Hid (∀ V, Calls Try.prog 49 #[.int .i64 (k : Int), .string ⟨#[109, 97, 114, 107]⟩] V fun e w' => e = .returned (.string (mk k ME)) ∧ w' = V) := fun V => mark_any k ME V (by have := hlen.out.1; show _ ≤ _; omega) (by show _ ≤ _; decide)
                    have Hm2 : Hid (∀ V, Calls Try.prog 49 #[.int .i64 (k : Int), .string ⟨#[109, 111, 114, 101]⟩] V fun e w' => e = .returned (.string (mk k MO)) ∧ w' = V) := fun V => mark_any k MO V (by have := hlen.out.1; show _ ≤ _; omega) (by show _ ≤ _; decide)
                    clear hI2
                    generalize mk k ME = M1 at *
                    generalize mk k MO = M2 at *
                    generalize lf k = LL at hlc hc2 HI2
                    obtain ⟨l1, l2⟩ := LL
                    simp only at hlc hc2 HI2
                    generalize CM C k = X at *
                    generalize DM C k = Y at *
                    generalize hx : X.length = x at *
                    generalize hy : Y.length = y at *
                    have hx64 : (x : Int) ≤ 1073741824 := by omega
                    have hy64 : (y : Int) = x + 12 := by omega
                    have te1 := text_eq M1
                    have te2 := text_eq M2
                    go_wp2_with fail
                    go_loopw [15] (fun q wx => ∃ j m : Nat, j ≤ y ∧ q = .int .i64 (j : Int) ∧ wx = V0.drewN m) (fun q _ => y - (intOf q).toNat)
                    case atStart => exact ⟨0, m, by omega, rfl, rfl⟩
                    case round =>
                      obtain ⟨j, m, hj, rfl, rfl⟩ := hrel
                      have c1V : (V0.drewN m).cell? ⟨gg, k, none⟩ = some (.slice a1 x a2) := c1
                      have c2V : (V0.drewN m).cell? ⟨g, k, none⟩ = some (.slice l1 y l2) := hlc
                      by_cases hjy : j < y
                      · have hjy' : (j : Int) < (y : Int) := by omega
                        by_cases hjx : j < x
                        · have hjx' : (j : Int) < (x : Int) := by omega
                          have hd1 : decide ((x : Int) ≤ (j : Int)) = false := decide_eq_false (by omega)
                          have hd2 : decide (x ≤ j) = false := decide_eq_false (by omega)
                          have hd3 : decide ((j : Int) < (x : Int)) = true := decide_eq_true hjx'
                          have hd4 : decide (j < x) = true := decide_eq_true hjx
                          obtain ⟨e1, e2⟩ := hG1.out j hjx
                          obtain ⟨b1, o1, rfl, _, d1⟩ := hI1.out.at e1
                          obtain ⟨b2, o2, rfl, _, d2⟩ := HI2.out.at e2
                          have d1V : (V0.drewN m).cell? ⟨b1, o1 + j, none⟩ = some (.string M1) := d1
                          have d2V : (V0.drewN m).cell? ⟨b2, o2 + j, none⟩ = some (.string M1) := d2
                          have hmd : Hid (∀ q, (V0.drewN m).drewN q = V0.drewN (m + q)) := fun q => World.drewN_drewN _ _ _
                          clear d1 d2 e1 e2
                          generalize hVV : V0.drewN m = V at *
                          have HVV := hide' hVV
                          clear hVV
                          go_wp2_with fail
                          go_quiet ((go_at_call 49; exact Calls.quiet_of_same (Hm1.out _)))
                          go_wp2_with fail
                          exact ⟨⟨j + 1, m + nq, by omega, by go_num, by rw [← HVV.out, World.drewN_drewN]⟩, by simp [intOf]; omega⟩
                        · have hjx' : ¬ (j : Int) < (x : Int) := by omega
                          have hjx2 : (x : Int) ≤ (j : Int) := by omega
                          have hd1 : decide ((x : Int) ≤ (j : Int)) = true := decide_eq_true (by omega)
                          have hd2 : decide (x ≤ j) = true := decide_eq_true (by omega)
                          have hd3 : decide ((j : Int) < (x : Int)) = false := decide_eq_false hjx'
                          have hd4 : decide (j < x) = false := decide_eq_false hjx
                          have e2 := hG2.out j hjx hjy
                          obtain ⟨b2, o2, rfl, _, d2⟩ := HI2.out.at e2
                          have d2V : (V0.drewN m).cell? ⟨b2, o2 + j, none⟩ = some (.string M2) := d2
                          clear d2 e2
                          generalize hVV : V0.drewN m = V at *
                          have HVV := hide' hVV
                          clear hVV
                          go_wp2_with fail
                          go_quiet ((go_at_call 49; exact Calls.quiet_of_same (Hm2.out _)))
                          go_wp2_with fail
                          exact ⟨⟨j + 1, m + nq, by omega, by go_num, by rw [← HVV.out, World.drewN_drewN]⟩, by simp [intOf]; omega⟩
                      · have hjn : y = j := by omega
                        subst hjn
                        have hjy' : ¬ (y : Int) < (y : Int) := by omega
                        go_wp2_with fail
                        exact ⟨⟨k + 1, m, by omega, by go_num, rfl⟩, by simp [intOf]; omega⟩
                  · have hm1 : (k : Int).tmod 2 = 1 := by rw [Int.tmod_eq_emod_of_nonneg (by omega)]; omega
                    have hCM : CM C k = C k := by unfold CM; rw [if_neg (by omega)]
                    rw [hCM] at c1 hI1
                    obtain ⟨wb, off, ro, rc, rfl, _, _, c2, hrc, hI⟩ := H9.out.2.1.at (hwl.out k hlt)
                    have c1V : (V0.drewN m).cell? ⟨gg, k, none⟩ = some (.slice a1 (C k).length a2) := c1
                    have c2V : (V0.drewN m).cell? ⟨wb, off + k, none⟩ = some (.slice ro (C k).length rc) := c2
                    have hca : (C k).length ≤ a2 := hcp.out k _ Ha.out
                    have hS : Hid (Calls Try.prog 19 #[.slice a1 (C k).length a2, .slice ro (C k).length rc] (V0.drewN m).drew fun e w' => e = .returned (.bool true) ∧ ∃ n, w' = (V0.drewN m).drew.drewN n) := S.same_any (C k).length a1 ro a2 rc (C k) ((V0.drewN m).drew) rfl (hI1.out.drewN (m + 1)) (hI.drewN (m + 1)) hca hrc (by have := hlen.out.2 k; show _ < _; omega)
                    clear hI c1 c2
                    generalize hVV : V0.drewN m = V at *
                    have HVV := hide' hVV
                    clear hVV
                    go_wp2_with fail
                    go_region_held3 (fun w' => w'.cell? ⟨gg, k, none⟩ = some (.slice a1 (C k).length a2) ∧ w'.cell? ⟨wb, off + k, none⟩ = some (.slice ro (C k).length rc)) (first | go_keep) (first | (go_at_call 19; refine hS.out.mono ?_; rintro e W1 ⟨rfl, n1, rfl⟩))
                    go_wp2_with fail
                    exact ⟨⟨k + 1, m + (1 + n1), by omega, by go_num, by rw [← HVV.out, World.drewN_drewN]⟩, by simp [intOf]; omega⟩
                · have hkn : n = k := by omega
                  subst hkn
                  have hlt' : ¬ (n : Int) < (n : Int) := by omega
                  clear hlt hk
                  go_wp2_with fail
                  go_ret
                  exact ⟨rfl, H9.out.2.2.drewN m⟩
end L
end Go.Proofs.Ytahjhnikckmneaa
