import Derived.Test.YtfeehnfpfheojaaFnd
import Derived.Deep.RegionWith
import Derived.Test.YtfeehnfpfheojaaFilP
set_option linter.unusedVariables false
set_option linter.unusedSimpArgs false
namespace Go.Proofs.Ytfeehnfpfheojaa
open Go.RowKit Go.Sort
namespace Fr
variable {D : Nat → Prop} {B h : Nat} {F : List Bk} {cnt : Nat} {w w' : World}
def tb : Value → Nat
  | .bool true => 1
  | _ => 0
theorem low_less {w1 : World} {FR F0 : List Bk} {c0 : Nat} (hd : Dis FR) (ho : Oks FR) (H : FTo D B h FR c0 w w') {D1 : Nat → Prop} {w0 : World} (H1 : FTo D1 B h (lowR FR).2.2 c0 w0 w1) : hlen h w1 + tb (.bool (lowR FR).2.1) < hlen h w' + tb (.bool true) := by
  rw [hlen_to H, hlen_to H1]
  cases FR with
  | nil => show 0 + 0 < 0 + 1; omega
  | cons b r =>
    have := (grp_ok b r hd ho).2.2.2.1
    show (grp b r).2.length + 1 < (b :: r).length + 1
    simp
    omega
set_option maxRecDepth 100000 in
set_option maxHeartbeats 8000000 in
theorem find_any (n : Int) (ab : Nat) (H : Fr D B h F cnt w) (hd : Dis F) (ho : Oks F) (hc : cnt < 4611686018427000000) (ha : w.cell? ⟨ab, 1, none⟩ = some (.pointer (some ⟨h, 0, none⟩))) (hnD : ¬ D ab) :
    Calls Try.prog 87 #[.pointer (some ⟨ab, 0, none⟩), .int .i64 n] w fun e w' => FindIs D B h cnt (norm F) n w e w' := by
  have hlt : ab < w.heap.size := World.block_lt_of_cell? w _ ha
  have hba := (Below.refl w.heap.size w).alloc (Nat.le_refl _) (.cells (cz z0) 110)
  have HP := hide' (lowest_any (H.below hba) hd ho)
  have HH := hide' H
  have Hd := hide' hd
  have Ho := hide' ho
  have Hc := hide' hc
  have Ha := hide' (And.intro ha hnD)
  have haa : ∀ o, (w.alloc o).cell? ⟨ab, 1, none⟩ = some (.pointer (some ⟨h, 0, none⟩)) := fun o => (World.cell?_alloc_lt w o _ hlt).trans ha
  clear hd ho hc H hnD ha
  go_enter Try.func87, Try.ntmps87
  go_wp2_with fail
  refine HP.out.mono ?_
  rintro e w1 ⟨rfl, T1⟩
  have k4 := T1.box (fun j q => (HH.out.below hba).lo q |>.2) (HH.out.below hba) (heap_alloc_new w (.cells (cz z0) 110))
  have T1' := FTo.pre hba T1
  have sz1 := T1'.sz
  have l4 := lt_of_heap k4
  have L0 : Hid (Fs D B h cnt (norm F) n w w.heap.size w1.heap.size none 0 [] (lowR F).1 (lowR F).2.1 (lowR F).2.2 (w1.alloc (.cells (cz (lowR F).1) 110))) := hide'
    ⟨T1'.more (turn_below (S := fun _ => False) ((Below.refl w1.heap.size w1).alloc (Nat.le_refl _) _)) (fun j q => q.elim) (fun _ _ _ _ q => q), RowB.nil _ _, (fun s hs => by cases hs), St.start Hd.out Ho.out, (Below.heap_alloc _ _ _ l4).trans k4, heap_alloc_new _ _, by omega, Nat.le_refl _, sz1, (fun j hj => by obtain ⟨a, q, _⟩ := hj; cases q)⟩
  clear T1 T1' k4 hba HP haa l4 sz1
  generalize lowR F = G at *
  go_wp2_with fail
  generalize hW : (w1.alloc (.cells (cz G.1) 110)) = W at *
  have hW' : w1.alloc (.cells #[.int .i64 G.1.addr, .int .i64 G.1.size, .bool G.1.free] 110) = W := hW
  rw [hW']
  clear hW hW'
  generalize w1.heap.size = b7 at *
  go_loopw [6, 8] (fun t6 t8 wx => ∃ so sc S p ok FR, t6 = .slice so S.length sc ∧ t8 = .bool ok ∧ Fs D B h cnt (norm F) n w w.heap.size b7 so sc S p ok FR wx) (fun _ t8 wx => hlen h wx + tb t8)
  case atStart => exact ⟨none, 0, [], _, _, _, rfl, rfl, L0.out⟩
  case round =>
    obtain ⟨so, sc, S, p, ok, FR, rfl, rfl, L⟩ := hrel
    clear L0
    obtain ⟨x0, x1, x2, xf⟩ := row3 L.h7
    by_cases hgo : ok = true ∧ p.size < n
    · obtain ⟨rfl, hps⟩ := hgo
      obtain ⟨D0, f0, t0, s0⟩ := id L.to
      have HL := hide' L
      have Hps := hide' hps
      have Hf0 := hide' (And.intro f0 (And.intro t0 s0))
      have hBw : Hid (w.heap.size ≤ wr.heap.size) := t0.size
      have hSl : Hid (S.length < 3000000000000) := (show S.length < 3000000000000 by have := fs_few L; omega)
      have Hrow := hide' L.row
      have hfr := L.st.fr
      have Hfr := hide' hfr
      clear L f0 t0 s0 hfr
      go_wp2_with (at_builtin; refine wpList_moreB wr rfl _ _ rfl Hrow.out hSl hBw.out p _ rfl rfl ?_; intro gg cap' w2 r2 t2 hg2; have hcab : w2.cell? ⟨ab, 1, none⟩ = some (.pointer (some ⟨h, 0, none⟩)) := (((Hf0.out.2.1).then t2 (fun i hi q => by have := (HL.out.row.lt q).1; omega)).cell (p := ⟨ab, 1, none⟩) hlt Ha.out.2).trans Ha.out.1)
      have f2 : Fr D0 B h FR cnt w2 := Hf0.out.1.kept t2 (fun j q r => by
        obtain ⟨_, _, c, hc⟩ := HL.out.row.lt r
        exact Hf0.out.1.not hc (by decide) (by decide) q)
      refine (lowest_any f2 Hfr.out.1 Hfr.out.2.1).mono ?_
      rintro e w3 ⟨rfl, T3⟩
      have k7 : w2.heap[b7]? = some (.cells (cz p) 110 (0, 0)) := (t2.block b7 (lt_of_heap HL.out.h7) (fun q => (HL.out.son _ q).2 rfl)).trans HL.out.h7
      have m7 := T3.box (fun j q => (f2.lo q).2) f2 k7
      obtain ⟨y0, y1, y2, yf⟩ := row3 m7
      have LL := hide' (HL.out.step Hps.out r2 t2 hg2 Hf0.out.1 Hf0.out.2.1 Hf0.out.2.2 T3)
      have LM := hide' (low_less (F0 := []) Hfr.out.1 Hfr.out.2.1 HL.out.to LL.out.to)
      clear r2 t2 hg2 f2 T3 k7 m7 hcab x0 x1 x2 xf hps
      generalize lowR FR = G2 at *
      go_wp2
      go_roundw
      case rel => exact ⟨some ⟨gg, 0, none⟩, cap', S ++ [p], G2.1, G2.2.1, G2.2.2, by rw [List.length_append]; rfl, rfl, LL.out⟩
      case measure => exact LM.out
    · have hex : ok = false ∨ (ok = true ∧ ¬ p.size < n) := by
        cases ok with
        | false => exact .inl rfl
        | true => exact .inr ⟨rfl, fun q => hgo ⟨rfl, q⟩⟩
      have HL := hide' L
      have hfew : Hid (S.length ≤ 65536) := fs_few L
      have hfr := L.st.fr
      have Hfr := hide' hfr
      have Hok : Hid (ok = true → n ≤ p.size) := (fun q => by
        rcases hex with r | ⟨_, r⟩
        · rw [r] at q; cases q
        · omega)
      clear L hgo hfr
      rcases hex with rfl | ⟨rfl, hps⟩
      all_goals
        go_wp2_with fail
        go_loopw [40] (fun i wx => ∃ k : Nat, i = .int .i64 (k : Int) ∧ k ≤ S.length ∧ Fp D B h cnt w w.heap.size b7 so sc S p FR k wx) (fun i _ => S.length - (intOf i).toNat)
        case atStart => exact ⟨0, rfl, Nat.zero_le _, HL.out.turn⟩
        case round =>
          obtain ⟨k, rfl, hk, P⟩ := hrel
          clear x0 x1 x2 xf
          by_cases hlk : k < S.length
          · obtain ⟨s, hs⟩ : ∃ s, S[k]? = some s := ⟨_, List.getElem?_eq_getElem hlk⟩
            obtain ⟨g, hso, hcap, i0, i1, i2⟩ := P.row.item hs
            obtain ⟨D0, f0, t0, s0⟩ := id P.to
            have hcab : wr.cell? ⟨ab, 1, none⟩ = some (.pointer (some ⟨h, 0, none⟩)) := (t0.cell (p := ⟨ab, 1, none⟩) hlt Ha.out.2).trans Ha.out.1
            have hla : ab < wr.heap.size := Nat.lt_of_lt_of_le hlt t0.size
            have hcaa : ∀ o, (wr.alloc o).cell? ⟨ab, 1, none⟩ = some (.pointer (some ⟨h, 0, none⟩)) := fun o => (World.cell?_alloc_lt wr o _ hla).trans hcab
            have hperm : (S.take (k + 1) ++ FR).Perm (s :: (S.take k ++ FR)) := by
              rw [List.take_succ_eq_append_getElem hlk]
              have : S[k] = s := by rw [List.getElem?_eq_getElem hlk] at hs; cases hs; rfl
              rw [this]
              simp only [List.append_assoc, List.cons_append, List.nil_append]
              exact List.perm_middle
            have hln : (S.take k ++ FR).length < 1099511627776 := by
              have h3 := few Hfr.out.2.2.1 Hfr.out.2.2.2
              rw [List.length_append] at h3 ⊢
              rw [List.length_take]
              omega
            have HPu := hide' (fun w1 (b1 : Below wr.heap.size wr w1) => push_any s (F' := S.take (k + 1) ++ FR) (f0.below b1) hperm hln (by have := Hc.out; have := hfew.out; omega))
            have HP := hide' P
            have Hs := hide' hs
            have Hf := hide' (And.intro f0 (And.intro t0 s0))
            have e5 : wrap64 ((k : Int) + 1) = (k : Int) + 1 := by have := hfew.out; unfold wrap64; omega
            subst hso
            clear P f0 t0 s0 hs hperm hln
            have hbz : ∀ o, Below wr.heap.size wr (wr.alloc o).drew := fun o => ((Below.refl _ _).alloc (Nat.le_refl _) o).drew
            go_wp2_with fail
            go_region_with (refine (HPu.out _ (hbz _)).mono ?_; rintro e w9 ⟨rfl, T9⟩)
            all_goals
              have P9 := hide' (HP.out.step Hs.out Hf.out.1 Hf.out.2.1 Hf.out.2.2 (hbz _) T9)
              clear T9
              go_wp2
              go_roundw
              case rel => exact ⟨k + 1, by go_num, by omega, P9.out⟩
              case measure => exact M.msr' hlk _ e5
          · obtain rfl : k = S.length := by omega
            obtain ⟨x0, x1, x2, xf⟩ := row3 P.h7
            obtain ⟨y0, y1, y2, yf⟩ := row3 P.h4
            have hto := P.to
            rw [List.take_length] at hto
            have PK := hide' (And.intro (hto.more (set3_turn w.heap.size p wr) (fun j e => by rw [e]; exact Nat.le_refl _) (fun D1 j f q e => by subst e; exact f.box P.h4 q)) (set3_row p P.h4))
            have n47 := HL.out.n47
            clear P hto
            go_wp2
            (try simp only [Exit.inBlock, Exit.then])
            refine bodyPost_ret (Hp.results_row_tmp rfl _ _ w.heap.size 110 (cz p) (0, 0) _ rfl PK.out.2 Try.underlying110 rfl (by kernel_rfl)) rfl ?_
            exact ⟨S, p, _, FR, rfl, HL.out.st, HL.out.sml, by first | exact Hok.out | exact fun _ => Hok.out trivial, PK.out.1⟩
end Fr
end Go.Proofs.Ytfeehnfpfheojaa
