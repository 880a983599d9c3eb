import Derived.Test.YtoejcpfodbegeaaRepP
set_option linter.unusedVariables false
set_option linter.unusedSimpArgs false
namespace Go.Proofs.Ytoejcpfodbegeaa
open Go.RowKit
namespace M
theorem below_drewN {B : Nat} {w w' : World} (b : Below B w w') (n : Nat) : Below B w (w'.drewN n) := ⟨b.os, b.tape, b.output, b.size, b.block⟩
set_option maxRecDepth 100000 in
set_option maxHeartbeats 4000000 in
theorem rep_walk (wd : Int) (a : Option Addr) (cap : Nat) (ss : List St) (w : World) (hI : Sts w a ss) (hl : ss.length ≤ 1954687338268) :
    Calls Try.prog 5 #[.int .i64 wd, .slice a ss.length cap] w fun e w' => e = .returned (.bool true) ∧ Below w.heap.size w w' := by
  obtain ⟨n1, n2, n3⟩ := nof_le wd
  clear n3
  have Hm := hide' (made_any wd w)
  have HT0 := hide' (trail0 (nof wd) n1)
  generalize nof wd = n at *
  have HL := hide' hl
  have HI := hide' hI
  clear hl hI
  go_enter Try.func5, Try.ntmps5
  go_wp2_with fail
  refine Hm.out.mono ?_
  rintro e w1 ⟨x, rfl, D, h1, b1⟩
  clear Hm
  go_wp2_with fail
  go_loopw [7] (fun i wx => ∃ (k : Nat), k ≤ ss.length ∧ i = .int .i64 (k : Int) ∧ ∃ D ws tr bad, Mem D w.heap.size x ws tr bad wx ∧ tr.length ≤ 3 + k ∧ Trail n tr ws ∧ Below w.heap.size w wx) (fun i _ => ss.length - (intOf i).toNat)
  case atStart => exact ⟨0, by omega, rfl, D, _, _, _, h1, by simp [tr0], HT0.out, b1⟩
  case round =>
    obtain ⟨k, hk, rfl, Dk, ws, tr, bad, hM, htr, hT, bk⟩ := hrel
    have HM := hide' hM
    have Htr := hide' htr
    have HT := hide' hT
    have Hbk := hide' bk
    clear hM htr hT h1 b1
    by_cases hlt : k < ss.length
    · rcases HI.out with hI | ⟨b, off, rfl, hb, hc⟩
      · rw [hI] at hlt; simp at hlt
      have hcs := fun r hr => (bk.cell (p := ⟨b, off + k * 9 + r, none⟩) hb).trans (hc k hlt r hr)
      generalize ss[k] = s at *
      obtain ⟨sd, sa, sb, sc, ⟨xk, xa, xv, xo, xg⟩⟩ := s
      have c0 : wr.cell? ⟨b, off + k * 9, none⟩ = some (.int .i64 sd) := hcs 0 (by omega)
      have c1 : wr.cell? ⟨b, off + k * 9 + 1, none⟩ = some (.int .i64 sa) := hcs 1 (by omega)
      have c2 : wr.cell? ⟨b, off + k * 9 + 2, none⟩ = some (.int .i64 sb) := hcs 2 (by omega)
      have c3 : wr.cell? ⟨b, off + k * 9 + 3, none⟩ = some (.int .i64 sc) := hcs 3 (by omega)
      have c4 : wr.cell? ⟨b, off + k * 9 + 4, none⟩ = some (.int .i8 xk) := hcs 4 (by omega)
      have c5 : wr.cell? ⟨b, off + k * 9 + 5, none⟩ = some (.int .i64 xa) := hcs 5 (by omega)
      have c6 : wr.cell? ⟨b, off + k * 9 + 6, none⟩ = some (.int .i64 xv) := hcs 6 (by omega)
      have c7 : wr.cell? ⟨b, off + k * 9 + 7, none⟩ = some (.int .i64 xo) := hcs 7 (by omega)
      have c8 : wr.cell? ⟨b, off + k * 9 + 8, none⟩ = some (.bool xg) := hcs 8 (by omega)
      have Hwk := hide' (wrap_kk k (by have := HL.out; omega))
      have Hwk2 := hide' (vint_kk k (by have := HL.out; omega))
      have HA := hide' (fun o => HM.out.alloc o)
      have HbA := hide' (fun o => Hbk.out.alloc Hbk.out.size o)
      have Hfew := hide' (show tr.length < 1999999999999 by have := Htr.out; have := HL.out; omega)
      have Htr2 := hide' (fun z => show (tr ++ [z]).length ≤ 3 + (k + 1) by rw [List.length_append]; have := Htr.out; simp; omega)
      clear hcs hc bk
      by_cases h1 : sd = 1
      · subst h1
        have Hc := hide' (load_any sa (HA.out (.cells #[.int .i64 1, .int .i64 sa, .int .i64 sb, .int .i64 sc, .int .i8 xk, .int .i64 xa, .int .i64 xv, .int .i64 xo, .bool xg] 39)) Hfew.out)
        go_wp2_with fail
        refine Hc.out.mono ?_
        rintro e w2 ⟨rfl, t2⟩
        obtain ⟨D2, m2, b2⟩ := To.below (HA.out _) (HbA.out _) t2
        have K := hide' (And.intro m2 b2)
        clear Hc t2 m2 b2
        go_wp2
        go_roundw
        case rel => exact ⟨k + 1, by omega, Hwk2.out, D2, _, _, _, K.out.1, Htr2.out _, HT.out.snoc (stp_load _ _), K.out.2⟩
        case measure => exact msr hlt Hwk.out
      have d1 : (sd == 1) = false := by simpa using h1
      by_cases h2 : sd = 2
      · subst h2
        have Hc := hide' (store_any sa sb (HA.out (.cells #[.int .i64 2, .int .i64 sa, .int .i64 sb, .int .i64 sc, .int .i8 xk, .int .i64 xa, .int .i64 xv, .int .i64 xo, .bool xg] 39)) Hfew.out)
        go_wp2_with fail
        refine Hc.out.mono ?_
        rintro e w2 ⟨rfl, t2⟩
        obtain ⟨D2, m2, b2⟩ := To.below (HA.out _) (HbA.out _) t2
        have K := hide' (And.intro m2 b2)
        clear Hc t2 m2 b2
        go_wp2
        go_roundw
        case rel => exact ⟨k + 1, by omega, Hwk2.out, D2, _, _, _, K.out.1, Htr2.out _, HT.out.snoc (stp_store _ _ _), K.out.2⟩
        case measure => exact msr hlt Hwk.out
      have d2 : (sd == 2) = false := by simpa using h2
      by_cases h3 : sd = 3
      · subst h3
        have Hc := hide' (swap_any sa sb sc (HA.out (.cells #[.int .i64 3, .int .i64 sa, .int .i64 sb, .int .i64 sc, .int .i8 xk, .int .i64 xa, .int .i64 xv, .int .i64 xo, .bool xg] 39)) Hfew.out)
        go_wp2_with fail
        refine Hc.out.mono ?_
        rintro e w2 ⟨rfl, t2⟩
        obtain ⟨D2, m2, b2⟩ := To.below (HA.out _) (HbA.out _) t2
        have K := hide' (And.intro m2 b2)
        clear Hc t2 m2 b2
        go_wp2
        go_roundw
        case rel => exact ⟨k + 1, by omega, Hwk2.out, D2, _, _, _, K.out.1, Htr2.out _, HT.out.snoc (stp_swap _ _ _ _), K.out.2⟩
        case measure => exact msr hlt Hwk.out
      have d3 : (sd == 3) = false := by simpa using h3
      by_cases h4 : sd = 4
      · subst h4
        have Hc := hide' (add_any sa sb (HA.out (.cells #[.int .i64 4, .int .i64 sa, .int .i64 sb, .int .i64 sc, .int .i8 xk, .int .i64 xa, .int .i64 xv, .int .i64 xo, .bool xg] 39)) Hfew.out)
        go_wp2_with fail
        refine Hc.out.mono ?_
        rintro e w2 ⟨rfl, t2⟩
        obtain ⟨D2, m2, b2⟩ := To.below (HA.out _) (HbA.out _) t2
        have K := hide' (And.intro m2 b2)
        clear Hc t2 m2 b2
        go_wp2
        go_roundw
        case rel => exact ⟨k + 1, by omega, Hwk2.out, D2, _, _, _, K.out.1, Htr2.out _, HT.out.snoc (stp_add _ _ _), K.out.2⟩
        case measure => exact msr hlt Hwk.out
      have d4 : (sd == 4) = false := by simpa using h4
      clear h1 h2 h3 h4
      go_wp2
      go_roundw
      case rel => exact ⟨k + 1, by omega, Hwk2.out, Dk, _, _, _, HA.out _, by have := Htr.out; omega, HT.out, HbA.out _⟩
      case measure => exact msr hlt Hwk.out
    · have hkl : k = ss.length := by omega
      have hfew : tr.length < 1999999999999 := by have := Htr.out; have := HL.out; omega
      have Hfew := hide' hfew
      have hmk := fun w => make_any n (by omega) (n : Int) rfl w
      have hwl := HT.out.len
      have hDl : Hid (∀ j, Dk j → j < wr.heap.size) := fun j hj => (HM.out.lo hj).2
      have HMA := hide' (HM.out.alloc (.cells (words (List.replicate n 0)) 3))
      have HbA := hide' (Hbk.out.alloc Hbk.out.size (.cells (words (List.replicate n 0)) 3))
      have hgl : (wr.alloc (.cells (words (List.replicate n 0)) 3)).heap[wr.heap.size]? = some (.cells (words (List.replicate n 0)) 3 (0, 0)) := heap_alloc_new _ _
      have Hgl := hide' hgl
      have Hwl := hide' hwl
      have hszA : (wr.alloc (.cells (words (List.replicate n 0)) 3)).heap.size = wr.heap.size + 1 := by simp
      have HszA := hide' hszA
      have Ht := hide' (trace_any HMA.out (by omega))
      obtain ⟨L, L0, L1, L2⟩ := HT.out
      have HL0 := hide' L0
      have HL1 := hide' L1
      have HL2 := hide' L2
      have HbS := Hbk.out.size
      clear hgl hwl hszA hfew L0 L1 L2 HM Hbk bk
      have HR0 : Hid ((List.replicate n (0 : Int)).length = n) := List.length_replicate
      have HglB : Hid (w.heap.size ≤ wr.heap.size) := HbS
      generalize List.replicate n (0 : Int) = R0 at *
      go_wp2_with fail
      generalize hwA : wr.alloc (.cells (words R0) 3) = wA at *
      clear hwA
      generalize wr.heap.size = gl at *
      refine Ht.out.mono ?_
      rintro e w2 ⟨ro, rc, rfl, hr2, b2⟩
      clear Ht
      have HM2 := hide' (HMA.out.below b2)
      have Hb2 := hide' (HbA.out.trans (b2.mono HbA.out.size))
      have hglA : gl < wA.heap.size := by have := HszA.out; omega
      have Hgl2 := hide' ((b2.block gl hglA).trans Hgl.out)
      have Hr2 := hide' hr2
      have HszB := hide' hglA
      clear hr2 b2 HMA HbA Hgl HszA hglA
      go_wp2_with fail
      go_loopw [11] (fun i wx => ∃ (k : Nat), k ≤ tr.length ∧ i = .int .i64 (k : Int) ∧ wx.heap[gl]? = some (.cells (words (L k)) 3 (0, 0)) ∧ (L k).length = n ∧ Turn (fun j => j = gl) w2 wx) (fun i _ => tr.length - (intOf i).toNat)
      case atStart => exact ⟨0, by omega, rfl, by rw [HL0.out]; exact Hgl2.out, by rw [HL0.out]; exact HR0.out, Turn.refl _ _⟩
      case round =>
        obtain ⟨q, hq, rfl, hgq, hlq, tq⟩ := hrel
        have Htq := hide' tq
        have Hgq := hide' hgq
        have Hlq := hide' hlq
        by_cases hlt2 : q < tr.length
        · obtain ⟨gt, rfl, lgt, ugt, mgt, cgt⟩ := acs_cells Hr2.out (by omega)
          have hz := List.getElem?_eq_getElem hlt2
          have hstp := HL2.out q _ hz
          have hcq := fun r hr => (tq.cell (p := ⟨gt, q * 5 + r, none⟩) ugt (by show ¬ gt = gl; have := HszB.out; omega)).trans (cgt q _ hz r hr)
          generalize tr[q] = z at *
          obtain ⟨zk, za, zv, zo, zg⟩ := z
          have c0 : wr.cell? ⟨gt, q * 5, none⟩ = some (.int .i8 zk) := hcq 0 (by omega)
          have c1 : wr.cell? ⟨gt, q * 5 + 1, none⟩ = some (.int .i64 za) := hcq 1 (by omega)
          have c2 : wr.cell? ⟨gt, q * 5 + 2, none⟩ = some (.int .i64 zv) := hcq 2 (by omega)
          have c3 : wr.cell? ⟨gt, q * 5 + 3, none⟩ = some (.int .i64 zo) := hcq 3 (by omega)
          have c4 : wr.cell? ⟨gt, q * 5 + 4, none⟩ = some (.bool zg) := hcq 4 (by omega)
          have Hwq := hide' (wrap_kk q (few_k hlt2 (Nat.le_refl _) (by have := Hfew.out; omega)))
          have Hwq2 := hide' (vint_kk q (few_k hlt2 (Nat.le_refl _) (by have := Hfew.out; omega)))
          have hglt : gl < wr.heap.size := lt_of_heap hgq
          have Hglt := hide' hglt
          have HtA := hide' (fun o => Htq.out.alloc o)
          have HgA := hide' (fun o => (Below.heap_alloc wr o gl hglt).trans Hgq.out)
          obtain ⟨sl, sg, sc⟩ := hstp
          simp only at sg sc
          have Hsl := hide' (sl.trans hlq)
          clear hcq cgt hz tq hgq hlq hglt sl
          by_cases hin : 0 ≤ za ∧ za < (n : Int)
          · obtain ⟨p, rfl⟩ : ∃ p : Nat, za = (p : Int) := ⟨za.toNat, by omega⟩
            have hp : p < n := by omega
            have hpl : p < (L q).length := by rw [Hlq.out]; exact hp
            have hcp : wr.cell? ⟨gl, p, none⟩ = some (.int .i64 ((L q).getD p 0)) := by rw [Lib.cell_of_heap Hgq.out]; exact words_at _ _ hpl
            have hfp : wr.frozen? ⟨gl, p, none⟩ = false := Lib.frozen_of_heap Hgq.out p
            have hsp : std (L q) p = (L q).getD p 0 := std_at _ _ hpl
            rw [hsp, Int.toNat_natCast] at sc
            clear hsp hpl sg
            have hcpA : ∀ o, (wr.alloc o).cell? ⟨gl, p, none⟩ = some (.int .i64 ((L q).getD p 0)) := fun o => by rw [Lib.cell_of_heap (HgA.out o)]; exact words_at _ _ (by rw [Hlq.out]; exact hp)
            have hfpA : ∀ o, (wr.alloc o).frozen? ⟨gl, p, none⟩ = false := fun o => Lib.frozen_of_heap (HgA.out o) p
            have Hset := hide' (fun o v => set_block (off := p) (v := .int .i64 v) (HgA.out o))
            simp only [words_set] at Hset
            have HtS := hide' (fun o v => (HtA.out o).setCell (p := ⟨gl, p, none⟩) (fun _ => rfl) (.int .i64 v))
            clear hin
            rcases sc with ⟨rfl, rfl, s3⟩ | ⟨rfl | rfl, rfl, s3, s4⟩ | ⟨rfl, rfl, s3, s4⟩

            · have S3 := hide' s3
              clear s3
              generalize (L q).getD p 0 = v at *
              cases zg
              · go_wp2
                go_roundw
                case rel => exact ⟨q + 1, by omega, Hwq2.out, by rw [S3.out]; exact HgA.out _, Hsl.out, HtA.out _⟩
                case measure => exact msr hlt2 Hwq.out
              · go_wp2
                go_roundw
                case rel => exact ⟨q + 1, by omega, Hwq2.out, by rw [S3.out]; exact HgA.out _, Hsl.out, HtA.out _⟩
                case measure => exact msr hlt2 Hwq.out
            · cases zg
              · have S3 := hide' (s4 rfl)
                clear s3 s4
                generalize (L q).getD p 0 = v at *
                go_wp2
                go_roundw
                case rel => exact ⟨q + 1, by omega, Hwq2.out, by rw [S3.out]; exact HgA.out _, Hsl.out, HtA.out _⟩
                case measure => exact msr hlt2 Hwq.out
              · have S3 := hide' (s3 rfl)
                clear s3 s4
                generalize (L q).getD p 0 = v at *
                go_wp2
                go_roundw
                case rel => exact ⟨q + 1, by omega, Hwq2.out, by rw [S3.out]; exact Hset.out _ _, Hsl.out, HtS.out _ _⟩
                case measure => exact msr hlt2 Hwq.out
            · cases zg
              · have S3 := hide' (s4 rfl)
                clear s3 s4
                generalize (L q).getD p 0 = v at *
                go_wp2
                go_roundw
                case rel => exact ⟨q + 1, by omega, Hwq2.out, by rw [S3.out]; exact HgA.out _, Hsl.out, HtA.out _⟩
                case measure => exact msr hlt2 Hwq.out
              · have S3 := hide' (s3 rfl)
                clear s3 s4
                generalize (L q).getD p 0 = v at *
                go_wp2
                go_roundw
                case rel => exact ⟨q + 1, by omega, Hwq2.out, by rw [S3.out]; exact Hset.out _ _, Hsl.out, HtS.out _ _⟩
                case measure => exact msr hlt2 Hwq.out
            · cases zg
              · have S3 := hide' (s4 rfl)
                clear s3 s4
                generalize (L q).getD p 0 = v at *
                go_wp2
                go_roundw
                case rel => exact ⟨q + 1, by omega, Hwq2.out, by rw [S3.out]; exact HgA.out _, Hsl.out, HtA.out _⟩
                case measure => exact msr hlt2 Hwq.out
              · have S3 := hide' (s3 rfl)
                clear s3 s4
                generalize (L q).getD p 0 = v at *
                have hgx : wr.heap.size ≠ gl := by have := Hglt.out; omega
                have hxb : ∀ u, ((wr.alloc (.cells #[.int .i8 4, .int .i64 (p : Int), .int .i64 zv, .int .i64 v, .bool true] 37)).setCell ⟨gl, p, none⟩ u).heap[wr.heap.size]? = some (.cells #[.int .i8 4, .int .i64 (p : Int), .int .i64 zv, .int .i64 v, .bool true] 37 (0, 0)) := fun u => by rw [Below.heap_setCell _ _ _ _ hgx]; exact heap_alloc_new _ _
                have hx4 : ∀ u, ((wr.alloc (.cells #[.int .i8 4, .int .i64 (p : Int), .int .i64 zv, .int .i64 v, .bool true] 37)).setCell ⟨gl, p, none⟩ u).cell? ⟨wr.heap.size, 4, none⟩ = some (.bool true) := fun u => by rw [Lib.cell_of_heap (hxb u)]; rfl
                have hx0 : ∀ u, ((wr.alloc (.cells #[.int .i8 4, .int .i64 (p : Int), .int .i64 zv, .int .i64 v, .bool true] 37)).setCell ⟨gl, p, none⟩ u).cell? ⟨wr.heap.size, 0, none⟩ = some (.int .i8 4) := fun u => by rw [Lib.cell_of_heap (hxb u)]; rfl
                clear hxb hgx
                go_wp2
                go_roundw
                case rel => exact ⟨q + 1, by omega, Hwq2.out, by rw [S3.out]; exact Hset.out _ _, Hsl.out, HtS.out _ _⟩
                case measure => exact msr hlt2 Hwq.out
          · have hg : zg = false := by
              cases zg with
              | false => rfl
              | true => exact absurd (by have := sg rfl; rw [Hlq.out] at this; exact this) hin
            subst hg
            have hsp : std (L q) za = 0 := (er_out (by rw [Hlq.out]; exact hin)).2
            rw [hsp] at sc
            clear hsp sg
            by_cases hneg : 0 ≤ za
            · have hge : ¬ za < (n : Int) := by omega
              have dn : decide (0 ≤ za) = true := by simpa using hneg
              have dg : decide (za < (n : Int)) = false := by simpa using hge
              clear hin
              rcases sc with ⟨rfl, rfl, s3⟩ | ⟨rfl | rfl, rfl, s3, s4⟩ | ⟨rfl, rfl, s3, s4⟩
              · have S3 := hide' s3
                clear s3
                go_wp2
                go_roundw
                case rel => exact ⟨q + 1, by omega, Hwq2.out, by rw [S3.out]; exact HgA.out _, Hsl.out, HtA.out _⟩
                case measure => exact msr hlt2 Hwq.out
              · have S3 := hide' (s4 rfl)
                clear s3 s4
                go_wp2
                go_roundw
                case rel => exact ⟨q + 1, by omega, Hwq2.out, by rw [S3.out]; exact HgA.out _, Hsl.out, HtA.out _⟩
                case measure => exact msr hlt2 Hwq.out
              · have S3 := hide' (s4 rfl)
                clear s3 s4
                go_wp2
                go_roundw
                case rel => exact ⟨q + 1, by omega, Hwq2.out, by rw [S3.out]; exact HgA.out _, Hsl.out, HtA.out _⟩
                case measure => exact msr hlt2 Hwq.out
              · have S3 := hide' (s4 rfl)
                clear s3 s4
                go_wp2
                go_roundw
                case rel => exact ⟨q + 1, by omega, Hwq2.out, by rw [S3.out]; exact HgA.out _, Hsl.out, HtA.out _⟩
                case measure => exact msr hlt2 Hwq.out
            · have dn : decide (0 ≤ za) = false := by simpa using hneg
              clear hin
              rcases sc with ⟨rfl, rfl, s3⟩ | ⟨rfl | rfl, rfl, s3, s4⟩ | ⟨rfl, rfl, s3, s4⟩
              · have S3 := hide' s3
                clear s3
                go_wp2
                go_roundw
                case rel => exact ⟨q + 1, by omega, Hwq2.out, by rw [S3.out]; exact HgA.out _, Hsl.out, HtA.out _⟩
                case measure => exact msr hlt2 Hwq.out
              · have S3 := hide' (s4 rfl)
                clear s3 s4
                go_wp2
                go_roundw
                case rel => exact ⟨q + 1, by omega, Hwq2.out, by rw [S3.out]; exact HgA.out _, Hsl.out, HtA.out _⟩
                case measure => exact msr hlt2 Hwq.out
              · have S3 := hide' (s4 rfl)
                clear s3 s4
                go_wp2
                go_roundw
                case rel => exact ⟨q + 1, by omega, Hwq2.out, by rw [S3.out]; exact HgA.out _, Hsl.out, HtA.out _⟩
                case measure => exact msr hlt2 Hwq.out
              · have S3 := hide' (s4 rfl)
                clear s3 s4
                go_wp2
                go_roundw
                case rel => exact ⟨q + 1, by omega, Hwq2.out, by rw [S3.out]; exact HgA.out _, Hsl.out, HtA.out _⟩
                case measure => exact msr hlt2 Hwq.out
        · have hql : q = tr.length := by omega
          subst hql
          rw [HL1.out] at hgq
          have hM3 := HM2.out.kept tq (fun j hj e => by have := hDl.out j hj; omega)
          have b3 := Hb2.out.trans (tq.below (fun j hj => by rw [hj]; exact HglB.out) Hb2.out.size)
          have Hw := hide' (words_any 0 (n : Int) hM3 (by omega))
          obtain ⟨a1, a2⟩ := piece_all ws n Hwl.out
          rw [a1, a2, Hwl.out] at Hw
          have Hgq := hide' hgq
          have Hb3 := hide' b3
          clear a1 a2 hgq hlq tq Htq Hlq
          go_wp2_with fail
          refine Hw.out.mono ?_
          rintro e w4 ⟨ro4, rc4, rfl, hr4, b4⟩
          have i1 := ints_row hr4 Hwl.out
          have i2 := ints_block ((b4.block gl (lt_of_heap Hgq.out)).trans Hgq.out)
          have Hi := hide' (ints_eq ws ro4 (some ⟨gl, 0, none⟩) rc4 n w4 i1 i2 (by rw [Hwl.out]; omega))
          rw [Hwl.out] at Hi
          have Hb4 := hide' (Hb3.out.trans (b4.mono Hb3.out.size))
          clear i1 i2 hr4 b4 Hw hM3
          go_wp2_with fail
          refine Hi.out.mono ?_
          rintro e w5 ⟨rfl, nn, hw5⟩
          have hB5 : Below w.heap.size w w5 := by rw [hw5]; exact below_drewN Hb4.out nn
          have HB5 := hide' hB5
          clear hw5 hB5 Hi Hb4
          go_wp2
          go_ret
          exact ⟨rfl, HB5.out⟩
end M
end Go.Proofs.Ytoejcpfodbegeaa
