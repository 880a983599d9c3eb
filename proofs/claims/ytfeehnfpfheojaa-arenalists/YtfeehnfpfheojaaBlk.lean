import Derived.Test.YtfeehnfpfheojaaBlP
import Derived.Test.YtfeehnfpfheojaaGiv
set_option linter.unusedVariables false
set_option linter.unusedSimpArgs false
namespace Go.Proofs.Ytfeehnfpfheojaa
open Go.RowKit Go.Sort
namespace Ar
open Fr
variable {D : Nat → Prop} {B ab x : Nat} {ws : List Int} {tr : List M.Ac} {bad : Nat} {F : List Bk} {O : List (Int × Int)} {cnt : Nat} {w w' : World}
theorem norm_len (F : List Bk) : (norm F).length ≤ F.length := by
  induction F with
  | nil => exact Nat.le_refl _
  | cons a r ih =>
    rw [norm_cons]
    cases h : norm r with
    | nil => simp [cj]
    | cons c s =>
      rw [h] at ih
      by_cases e : c.addr = a.addr + a.size
      · rw [cj_yes e]; simp at ih ⊢; omega
      · rw [cj_no e]; simp at ih ⊢; omega
set_option maxRecDepth 100000 in
set_option maxHeartbeats 8000000 in
theorem blocks_any (H : Arn D B ab x ws tr bad F O cnt w) (hd : Dis F) (ho : Oks F) (hO : O.length < 100000) (hok : ∀ p ∈ O, Oo.okk p.1) (hne : 0 < (O.map ob ++ norm F).length) :
    Calls Try.prog 37 #[.pointer (some ⟨ab, 0, none⟩)] w fun e w' => BlocksIs F O w e w' := by
  obtain ⟨DM, DF, h, bm, A, hD⟩ := H
  obtain ⟨Dm, h1, h2, h3, h4⟩ := A.om.map
  have c1 := A.c1
  have c2 := A.c2
  have hab : ab < w.heap.size := lt_of_heap A.ha
  have hbm : bm < w.heap.size := A.om.lt
  have Hfr := hide' A.fr
  have Hnd := hide' A.om.nd
  have Hst := hide' (Rg.start hok h3)
  have H2 := hide' h2
  have Hd := hide' hd
  have Ho := hide' ho
  have HO := hide' hO
  have Hne := hide' hne
  have Hc1 := hide' c1
  clear A hD h2 h3 h4 hd ho hO hok hne
  go_enter Try.func37, Try.ntmps37
  go_wp2_with (first
    | (at_range; refine wpList_range_own _ rfl _ 133 rfl 3 3 Oo.law Try.underlying133 _ bm _ Dm rfl h1 ?_; intro w0 hrg0 hg0 hs0)
    | go_in)
  go_frame
  go_loopw [3] (fun t3 wr => ∃ (Q : List Bk) (P R : List (Int × Int)) (left : Lit → Bool) (cn : Nat) (so : Option Addr) (sc : Nat), t3 = .slice so Q.length sc ∧ Hid (Q = P.map ob) ∧ Rg O P R left ∧ wr.ranges Try.prog 3 (plainElem Try.prog 3) bm w.heap.size O.length Dm left cn ∧ RowB w.heap.size so sc Q wr ∧ Below w.heap.size w wr ∧ (∀ j, M.At so j → j ≠ w.heap.size)) (fun _ wr => wr.rangeLeft bm w.heap.size)
  case atStart =>
    exact ⟨[], [], O, _, _, none, 0, rfl, hide' rfl, Hst.out, hrg0, RowB.nil _ _, (Below.refl _ _).grown hg0 (Nat.le_refl _) (fun j hj => by cases hj), fun j hj => by obtain ⟨a, q, _⟩ := hj; cases q⟩
  case round =>
    obtain ⟨Q, P, R, left, cn, so, sc, rfl, hQ, hR, hrg, hrow, hbel, hso⟩ := hrel
    have HR := hide' hR
    have Hrow := hide' hrow
    have Hbel := hide' hbel
    have Hso := hide' hso
    have hPl : Hid (Q.length < 3000000000000) := (show Q.length < 3000000000000 by
      have := hR.perm.length_eq
      rw [List.length_append] at this
      rw [hQ.out, List.length_map]
      have := HO.out
      omega)
    clear hR hrow hbel hso
    go_wp2_with (first
      | (at_next; refine wpList_next_ranges_ii _ rfl _ rfl 3 3 .i64 .i64 Oo.law Try.underlying3 Try.underlying3 bm w.heap.size _ _ _ _ rfl hrg ?_ ?_)
      | go_in)
    · intro hc0 hl0
      have hP := hide' (HR.out.fin hl0)
      have c1r : wr.cell? ⟨ab, 1, none⟩ = some (.pointer (some ⟨h, 0, none⟩)) := (Hbel.out.cell (p := ⟨ab, 1, none⟩) hab).trans Hc1.out
      have hfl : F.length ≤ 65536 := few Hd.out Ho.out
      have HCp := hide' (copied_any (Hfr.out.below Hbel.out) (by omega))
      have Hfl := hide' hfl
      clear hrg hl0 hc0 HR Hst hrg0 hg0 hs0 hfl
      go_wp2_with fail
      refine HCp.out.mono ?_
      rintro e w3 ⟨h', rfl, D3, f3, b3⟩
      have f3' : Fr D3 w.heap.size h' F cnt w3 := fr_mono Hbel.out.size f3
      have HLo := hide' (lowest_any f3' Hd.out Ho.out)
      have hb3 : Below w.heap.size w w3 := Hbel.out.trans (b3.mono Hbel.out.size)
      have hrow3 : RowB w.heap.size so sc Q w3 := Hrow.out.kept (turn_below (S := fun _ => False) b3) (fun _ _ q => q)
      have H3 := hide' (And.intro f3' (And.intro hb3 hrow3))
      clear HCp f3 f3' b3 hb3 hrow3 c1r c2
      go_wp2_with fail
      refine HLo.out.mono ?_
      rintro e w4 ⟨rfl, T4⟩
      have L0 : Hid (Bs w h' cnt (norm F) Q so sc w4.heap.size [] (lowR F).1 (lowR F).2.1 (lowR F).2.2 (w4.alloc (.cells (cz (lowR F).1) 110))) := by
        obtain ⟨D4, f4, t4, s4⟩ := T4
        have hb4 : Below w.heap.size w w4 := H3.out.2.1.trans (t4.below (fun j q => (H3.out.1.lo q).1) H3.out.1.base)
        have ba : Below w4.heap.size w4 (w4.alloc (.cells (cz (lowR F).1) 110)) := (Below.refl _ _).alloc (Nat.le_refl _) _
        have r4 : RowB w.heap.size so sc Q w4 := H3.out.2.2.kept t4 (fun j hj => row_fr H3.out.2.2 H3.out.1 hj)
        refine ⟨St.start Hd.out Ho.out, ⟨D4, f4.below ba⟩, ?_, heap_alloc_new _ _, hb4.trans (ba.mono hb4.size), fun j hj => ?_, hb4.size⟩
        · rw [List.append_nil]
          exact r4.kept (turn_below (S := fun _ => False) ba) (fun _ _ q => q)
        · have := (r4.lt hj).2.1
          omega
      clear T4 HLo H3
      generalize lowR F = G at *
      go_wp2_with fail
      generalize hW : (w4.alloc (.cells (cz G.1) 110)) = W at *
      have hW' : w4.alloc (.cells #[.int .i64 G.1.addr, .int .i64 G.1.size, .bool G.1.free] 110) = W := hW
      rw [hW']
      clear hW hW'
      generalize w4.heap.size = b7 at *
      go_loopw [3, 7, 8] (fun t3 t7 t8 wx => ∃ V so sc nb S p ok FR, t3 = .slice so (V : List Bk).length sc ∧ t7 = .pointer (some ⟨nb, 0, none⟩) ∧ t8 = .bool ok ∧ Hid (V = Q ++ S) ∧ Bs w h' cnt (norm F) Q so sc nb S p ok FR wx) (fun _ _ t8 wx => hlen h' wx + tb t8)
      case atStart => exact ⟨Q, so, sc, b7, [], _, _, _, rfl, rfl, rfl, hide' (by rw [List.append_nil]), L0.out⟩
      case round =>
        obtain ⟨V, so2, sc2, nb, S, p, ok, FR, rfl, rfl, rfl, hV, L⟩ := hrel
        clear L0
        obtain ⟨x0, x1, x2, xf⟩ := row3 L.box
        have hfr := L.st.fr
        have Hfr2 := hide' hfr
        have hVl : Hid (V.length < 1000000) := by
          have h3 := few hfr.2.2.1 hfr.2.2.2
          rw [List.length_append] at h3
          rw [hV.out, List.length_append, hQ.out, List.length_map]
          have := hP.out.length_eq
          have := HO.out
          exact (show P.length + S.length < 1000000 by omega)
        cases ok with
        | true =>
          obtain ⟨D0, f0⟩ := id L.to
          have hBw : Hid (w.heap.size ≤ wr.heap.size) := L.bel.size
          have HrowV : Hid (RowB w.heap.size so2 sc2 V wr) := by rw [hV.out]; exact L.row
          have HL := hide' L
          have Hf0 := hide' f0
          have hVl2 : Hid (V.length < 3000000000000) := (show V.length < 3000000000000 by have := hVl.out; omega)
          clear L f0 hfr
          go_wp2_with (at_builtin; refine wpList_moreB wr rfl _ _ rfl HrowV.out hVl2 hBw.out p _ rfl rfl ?_; intro gg cap' w5 r5 t5 hg5; have hbx5 : Box nb p w5 := Box.turn HL.out.box t5 (fun q => HL.out.son _ q rfl); obtain ⟨y0, y1, y2, yf⟩ := row3 hbx5)
          have f5 : Fr D0 w.heap.size h' FR cnt w5 := Hf0.out.kept t5 (fun j q r => row_fr HrowV.out Hf0.out r q)
          have ba5 : Below w5.heap.size w5 (w5.alloc (.cells (cz p) 110)) := (Below.refl _ _).alloc (Nat.le_refl _) _
          have f5b := f5.below ba5
          refine (lowest_any f5b Hfr2.out.1 Hfr2.out.2.1).mono ?_
          rintro e w6 ⟨rfl, T6⟩
          have hk6 : Box w5.heap.size p w6 := T6.box (fun j q => (f5b.lo q).2) f5b (heap_alloc_new w5 (.cells (cz p) 110))
          obtain ⟨z0', z1', z2', zf⟩ := row3 hk6
          have LL := hide' (HL.out.step (by rw [← hV.out]; exact r5) t5 hg5 f5 T6)
          have LM : Hid (hlen h' (set3 w6 w5.heap.size (lowR FR).1) + tb (.bool (lowR FR).2.1) < hlen h' wr + tb (.bool true)) := by
            obtain ⟨D7, f7⟩ := LL.out.to
            exact low_less2 Hfr2.out.1 Hfr2.out.2.1 Hf0.out f7
          clear r5 t5 hg5 f5 f5b T6 hk6 hbx5 ba5 x0 x1 x2 xf y0 y1 y2 yf
          generalize lowR FR = G2 at *
          go_wp2
          go_roundw
          case rel => exact ⟨V ++ [p], some ⟨gg, 0, none⟩, cap', w5.heap.size, S ++ [p], G2.1, G2.2.1, G2.2.2, by rw [List.length_append]; rfl, rfl, rfl, hide' (by rw [hV.out, List.append_assoc]), LL.out⟩
          case measure => exact LM.out
        | false =>
          have hN : S = norm F := by
            rcases L.st with ⟨q, _⟩ | ⟨_, _, q, _⟩
            · cases q
            · exact q.symm
          have hperm : Hid (V.Perm (O.map ob ++ norm F)) := by
            rw [hV.out, hN, hQ.out]
            exact ((hP.out.map ob).append_right _)
          have hrowV : RowB w.heap.size so2 sc2 V wr := by rw [hV.out]; exact L.row
          have hVp : 0 < V.length := by have := hperm.out.length_eq; have := Hne.out; omega
          obtain ⟨g, cap', hv, hg1', hg2'⟩ := World.ownsRow.form hrowV hVp
          clear hg1' hg2'
          simp only [Value.slice.injEq] at hv
          obtain ⟨rfl, hvv, rfl⟩ := hv
          clear hvv
          have HSo := hide' (sort_any hrowV hVl.out)
          have Hrw := hide' (And.intro hrowV L.bel)
          clear L hrowV hVp hN hfr x0 x1 x2 xf
          go_wp2_with fail
          refine HSo.out.mono ?_
          rintro e w6 ⟨rfl, L6, p6, s6, r6, t6⟩
          have hl6 : L6.length = V.length := p6.length_eq
          have KK : Hid (L6.Perm (O.map ob ++ norm F) ∧ L6.Pairwise (fun x y : Bk => x.addr ≤ y.addr) ∧ RowB w.heap.size (some ⟨g, 0, none⟩) sc2 L6 w6 ∧ Below w.heap.size w w6) := hide' ⟨p6.trans hperm.out, s6, r6, Hrw.out.2.trans (t6.below (fun j e => by rw [e]; exact (Hrw.out.1.lt ⟨_, rfl, rfl⟩).1) Hrw.out.2.size)⟩
          have Hl6 := hide' hl6
          clear p6 s6 r6 t6 hl6 HSo
          go_wp2
          go_ret
          exact ⟨g, sc2, L6, by rw [Hl6.out]; rfl, KK.out⟩
    · intro kx vx w1 cnt1 hwx hwc hlx hat hrg1 hlt1 hg1 hs1 hen
      obtain ⟨R', hR'⟩ := HR.out.step Hnd.out hwx hlx
      have hv : vx = Oo.val O kx := by
        have e1 := hat (.lit (.int .i64 0))
        have e2 := H2.out kx hwx
        have : DataW.lit (.int .i64 vx) = (DataW.lit (.int .i64 (Oo.val O kx)) : DataW Unit) := e1.symm.trans e2
        cases this
        rfl
      have HR' := hide' hR'
      have t1 : Turn (fun j => j = w.heap.size) wr w1 := (Turn.refl (fun j => j = w.heap.size) wr).grown hg1 (fun k hk _ => by cases hk; rfl)
      have hrow1 : RowB w.heap.size so sc Q w1 := Hrow.out.kept t1 (fun j hj => Hso.out j hj)
      have hb1 : Below w.heap.size w w1 := Hbel.out.trans (t1.below (fun j e => Nat.le_of_eq e.symm) Hbel.out.size)
      have Hb1 := hide' hb1
      have hbs : Hid (w.heap.size ≤ w1.heap.size) := hb1.size
      have Hrow1 := hide' hrow1
      have Hrg1 := hide' hrg1
      have Hmes := hide' (And.intro hrg.left_eq hlt1)
      rw [← hv] at HR'
      have hwr : Hid (w.heap.size < w1.heap.size) := hrg1.lt
      clear hat hrg1 hg1 t1 hrow1 hb1 hR' hlx hv hrg hlt1 hs1
      go_wp2_with (at_builtin; refine wpList_moreB w1 rfl _ _ rfl Hrow1.out hPl hbs.out ⟨kx, vx, false⟩ _ rfl rfl ?_; intro gg cap' w2 r2 t2 hg2)
      have hrg2 := t2.ranges Hrg1.out (fun q => by have := (Hrow1.out.lt q).1; omega) (fun q => Hso.out _ q rfl)
      have KK : Hid (RowB w.heap.size (some ⟨gg, 0, none⟩) cap' (Q ++ [⟨kx, vx, false⟩]) w2 ∧ Below w.heap.size w w2 ∧ ∀ j, M.At (some ⟨gg, 0, none⟩) j → j ≠ w.heap.size) := hide' ⟨r2, Hb1.out.trans (t2.below (fun j q => (Hrow1.out.lt q).1) hbs.out), fun j hj => by
        obtain ⟨a, ha, rfl⟩ := hj
        cases ha
        rcases hg2 with q | q
        · exact Hso.out _ q
        · have := hwr.out; show gg ≠ w.heap.size; omega⟩
      have Hrg2 := hide' hrg2
      clear r2 t2 hg2 hrg2
      go_roundw
      case rel => exact ⟨Q ++ [⟨kx, vx, false⟩], P ++ [(kx, vx)], R', _, cnt1, some ⟨gg, 0, none⟩, cap', by rw [List.length_append]; rfl, hide' (by rw [List.map_append, hQ.out]; rfl), HR'.out, Hrg2.out, KK.out.1, KK.out.2.1, KK.out.2.2⟩
      case measure => rw [Hrg2.out.left_eq, Hmes.out.1]; exact Hmes.out.2
end Ar
end Go.Proofs.Ytfeehnfpfheojaa
