import Derived.Test.YtfeehnfpfheojaaJF
import Derived.Test.YtfeehnfpfheojaaGrW
import Derived.Test.YtfeehnfpfheojaaJE
import Derived.Test.YtfeehnfpfheojaaJC
set_option linter.unusedVariables false
set_option linter.unusedSimpArgs false
namespace Go.Proofs.Ytfeehnfpfheojaa
open Go.RowKit Go.Sort
namespace Lx
open Fr Ar Ra Gr
/-- a list's rows, wherever its world goes on to -/
theorem row_below {B rc : Nat} {so : Option Addr} {L : List Bk} {w w' : World} (r : RowB B so rc L w) (b : Below w.heap.size w w') : RowB B so rc L w' := r.kept (turn_below (S := fun _ => False) b) (fun _ _ q => q)
/-- both lists are told and held together -/
theorem told {B K ab rb : Nat} {L : List Bk} {Q : Nat → Prop} {w0 w : World} (z : Pz K B ab rb L Q w0) (b0 : Below w0.heap.size w0 w) {g rc : Nat} (r : RowB w0.heap.size (some ⟨g, 0, none⟩) rc L w) :
    Calls Try.prog 38 #[.pointer (some ⟨rb, 0, none⟩)] w fun e w2 => ∃ g2 rc2, e = .returned (.slice (some ⟨g2, 0, none⟩) L.length rc2) ∧ Hid (Below w0.heap.size w0 w2) ∧
      Hid (Calls Try.prog 36 #[.slice (some ⟨g, 0, none⟩) L.length rc, .slice (some ⟨g2, 0, none⟩) L.length rc2] w2 fun e w3 => e = .returned (.bool true) ∧ Hid (Below w.heap.size w w3)) := by
  refine (blocks_d (z.below b0)).mono ?_
  rintro e w2 ⟨g2, rc2, rfl, r2, b2⟩
  refine ⟨g2, rc2, rfl, hide' (b0.trans (b2.mono b0.size)), hide' ?_⟩
  refine (same_blocks (BkS.of_row (row_below r b2)) (BkS.of_row r2) z.few).mono ?_
  rintro e w3 ⟨rfl, m, rfl⟩
  exact ⟨rfl, hide' (Ra.bel_drewN b2 m)⟩
theorem range_more' (G : Nat → Rw) (N : Nat) (r : Rw) : (List.range (N + 1)).map (fun i => (Gr.upd G N r i).v) = (List.range N).map (fun i => (Gr.upd G N r i).v) ++ [r.v] := by
  rw [List.range_succ, List.map_append]
  simp [Gr.upd]
theorem range_more2 (G : Nat → Rw) (N : Nat) (r r2 : Rw) : (List.range (N + 2)).map (fun i => (Gr.upd (Gr.upd G N r) (N + 1) r2 i).v) = (List.range N).map (fun i => (Gr.upd (Gr.upd G N r) (N + 1) r2 i).v) ++ [r.v, r2.v] := by
  rw [List.range_succ, List.map_append, List.range_succ, List.map_append]
  simp [Gr.upd]
theorem wsu {i : Nat} (h : i < 1000) : wrap64 ((i : Int) + 1) = ((i + 1 : Nat) : Int) := by unfold wrap64; omega
set_option maxRecDepth 100000 in
set_option maxHeartbeats 8000000 in
theorem lists_walk (words : Int) (sa : Option Addr) (sc : Nat) (ns : List Int) (w : World) (hs : M.Ints w sa ns) (hok : ∀ x ∈ ns, -9223372036854775808 ≤ x ∧ x ≤ 9223372036854775807) (hl : ns.length ≤ 17592186043904) :
    Calls Try.prog 6 #[.int .i64 words, .slice sa ns.length sc] w fun e w' => e = .returned (.bool true) ∧ Below w.heap.size w w' := by
  have HNs := hide' (And.intro hs hok)
  obtain ⟨T, hT⟩ : ∃ T, T = ns.length := ⟨_, rfl⟩
  have HL := hide' (And.intro hl hT)
  rw [← hT]
  have HA := hide' (Lv.lively_any w)
  have he70 := Ep.eq70
  have he63 := Ep.eq63
  obtain ⟨m, hm⟩ : ∃ m : Nat, words % 200 = (m : Int) := ⟨(words % 200).toNat, by omega⟩
  have hm2 : m < 200 := by omega
  have HAt : Hid (∀ W, Calls Try.prog 15 #[.int .i64 words, .int .i64 200] W fun e w' => e = .returned (.int .i64 (m : Int)) ∧ w' = W) := hide' (fun W => by
    have := Bk.at_any words 200 W (by omega) (by omega)
    rw [hm] at this
    exact this)
  have Hm : Hid (wrap64 (1 + (m : Int)) = ((m + 1 : Nat) : Int)) := hide' (by unfold wrap64; omega)
  have HM := hide' (fun W => made0 hm2 W)
  clear hs hok hl hT hm hm2
  go_enter Try.func6, Try.ntmps6
  go_wp2_with fail
  refine HA.out.mono ?_
  rintro e w1 ⟨rfl, b1⟩
  have B1 := hide' b1
  clear b1 HA
  go_wp2_with fail
  refine (HAt.out _).mono ?_
  rintro e wq ⟨rfl, hwq⟩
  obtain rfl := hwq
  clear HAt
  go_wp2_with fail
  rw [Hm.out]
  have HM1 := hide' (HM.out wq)
  clear HM Hm
  generalize ((m + 1 : Nat) : Int) = mm at *
  refine HM1.out.mono ?_
  rintro e wa ⟨x, rfl, Ba, HM2⟩
  clear HM1
  go_wp2_with fail
  refine HM2.out.mono ?_
  rintro e wb ⟨ab, rfl, Bb, HM3⟩
  clear HM2
  go_wp2_with fail
  refine HM3.out.mono ?_
  rintro e wc ⟨rb, rfl, HR⟩
  clear HM3 Ba Bb
  obtain ⟨L0, Q0, z0, bz⟩ := HR.out
  have I0 : Hid (Li wq.heap.size 0 0 0 ab rb L0 Q0 (fun _ => ⟨none, 0, 0⟩) (fun _ => []) none 0 wc ∧ Below wq.heap.size wq wc) := hide' ⟨Li.of0 z0 bz.size _, bz⟩
  clear HR z0 bz
  go_wp2_with fail
  go_loopw [5, 13, 14] (fun ov lv iv wx => ∃ (i : Nat) (L : List Bk) (Q : Nat → Prop) (G : Nat → Rw) (C : Nat → List Bk) (la : Option Addr) (lc : Nat), ov = .bool true ∧ lv = .slice la i lc ∧ iv = .int .i64 (i : Int) ∧ i ≤ T ∧ i ≤ 30 ∧ Li wq.heap.size i i i ab rb L Q G C la lc wx ∧ Below wq.heap.size wq wx) (fun _ _ iv _ => 31 - (intOf iv).toNat)
  case atStart => exact ⟨0, L0, Q0, _, _, none, 0, rfl, rfl, rfl, Nat.zero_le _, Nat.zero_le _, I0.out⟩
  case round =>
    obtain ⟨i, L, Q, G, C, la, lc, rfl, rfl, rfl, hi, hi2, h, bw⟩ := hrel
    have H := hide' (And.intro h bw)
    clear I0 h bw
    by_cases hlt : i < T ∧ i < 30
    · obtain ⟨hlt, hlt2⟩ := hlt
      have hlt' : (i : Int) < (T : Int) := by omega
      have hlt2' : (i : Int) < 30 := by omega
      have Hlt := hide' (And.intro hlt hlt2)
      have ew := hide' (wsu (i := i) (by omega))
      have Hms := hide' (Gr.msr' (show i < 31 by omega) _ rfl)
      rcases HNs.out.1 with q | ⟨xb, xo, hsa, hxb, hxc⟩
      · have := HL.out.2; rw [q] at this; simp at this; omega
      have hin : i < ns.length := by have := HL.out.2; omega
      have hv := HNs.out.2 (ns.getD i 0) (by rw [List.getD_eq_getElem?_getD, List.getElem?_eq_getElem hin]; exact List.getElem_mem hin)
      have y0 := hxc i hin
      obtain rfl := hsa
      generalize ns.getD i 0 = v at *
      have Hc : Hid (∀ W, Below wq.heap.size wq W → W.cell? ⟨xb, xo + i, none⟩ = some (.int .i64 v)) := hide' (fun W b => ((B1.out.trans (b.mono B1.out.size)).cell (p := ⟨xb, xo + i, none⟩) hxb).trans y0)
      have y1 := Hc.out _ H.out.2
      clear hxb hxc hin y0 hlt hlt2 hi hi2
      by_cases hneg : v < 0
      · obtain ⟨ng, hng⟩ : ∃ ng, wrap64 (-v) = ng := ⟨_, rfl⟩
        have hb : -9223372036854775808 ≤ ng ∧ ng ≤ 9223372036854775807 := by rw [← hng]; unfold wrap64; omega
        have G1 := hide' (give_both H.out.1.z ng hb (by have := Hlt.out; omega) H.out.1.lo)
        clear hb hv
        go_wp2_with fail
        refine G1.out.mono ?_
        rintro e w2 ⟨a, rfl, b2, G2⟩
        clear G1 y1 hng
        go_wp2_with fail
        refine G2.out.mono ?_
        rintro e w3 ⟨v3, rfl, b3, G3⟩
        clear G2
        go_wp2_with fail
        refine G3.out.mono ?_
        rintro e w4 ⟨v4, rfl, hZ⟩
        clear G3
        obtain ⟨L', Q', h4, b4⟩ := H.out.1.op hZ.out
        have H4 := hide' (And.intro h4 (H.out.2.trans b4))
        clear hZ h4 b4 H b2 b3
        have A1 := hide' (blocks_a H4.out.1.z)
        go_wp2_with fail
        refine A1.out.mono ?_
        rintro e w5 ⟨g, rc, rfl, r5, b5⟩
        have R5 := hide' (And.intro r5 b5)
        have A2 := hide' (told H4.out.1.z b5 r5)
        clear A1 r5 b5
        go_wp2_with fail
        refine A2.out.mono ?_
        rintro e w6 ⟨g2, rc2, rfl, b6, A3⟩
        clear A2
        go_wp2_with fail
        refine A3.out.mono ?_
        rintro e w7 ⟨rfl, b7⟩
        have b57 : Below w4.heap.size w4 w7 := R5.out.2.trans (b7.out.mono R5.out.2.size)
        have H7 := hide' (H4.out.1.new b57 (row_below R5.out.1 b7.out))
        have Bw7 := hide' (H4.out.2.trans (b57.mono H4.out.1.lo))
        clear A3 b6 b7 b57 R5 H4
        generalize L'.length = nl at *
        go_wp2_with (at_builtin; refine M.wpList_more (e := 88) (m := 1) Try.underlying93 info88 rfl (by omega) (by omega) w7 rfl _ _ rfl H7.out.row (by have := Hlt.out; omega) H7.out.lo [.slice (some ⟨g, 0, none⟩) nl rc] rfl (by simp [Value.oneCell']) _ rfl rfl ?_; intro gg cap' w8 r8 t8 hg8; have K8 := hide' (H7.out.app (by rw [range_more']; exact r8) t8 hg8); clear r8 t8 hg8)
        exact ⟨⟨i + 1, L', Q', _, _, _, _, rfl, rfl, by first | rfl | rw [ew.out], Hlt.out.1, Hlt.out.2, K8.out.1, Bw7.out.trans K8.out.2⟩, by first | exact Hms.out | (rw [ew.out]; exact Hms.out)⟩
      · have T1 := hide' (take_both H.out.1.z v hv.2 (by have := Hlt.out; omega) H.out.1.lo)
        clear hv
        go_wp2_with fail
        refine T1.out.mono ?_
        rintro e w2 ⟨v2, u2, rfl, b2, T2⟩
        have y2 := Hc.out _ (H.out.2.trans b2.out)
        clear T1 y1
        go_wp2_with fail
        refine T2.out.mono ?_
        rintro e w4 ⟨v4, u4, rfl, hZ⟩
        clear T2 y2
        obtain ⟨L', Q', h4, b4⟩ := H.out.1.op hZ.out
        have H4 := hide' (And.intro h4 (H.out.2.trans b4))
        clear hZ h4 b4 H b2
        have A1 := hide' (blocks_a H4.out.1.z)
        go_wp2_with fail
        refine A1.out.mono ?_
        rintro e w5 ⟨g, rc, rfl, r5, b5⟩
        have R5 := hide' (And.intro r5 b5)
        have A2 := hide' (told H4.out.1.z b5 r5)
        clear A1 r5 b5
        go_wp2_with fail
        refine A2.out.mono ?_
        rintro e w6 ⟨g2, rc2, rfl, b6, A3⟩
        clear A2
        go_wp2_with fail
        refine A3.out.mono ?_
        rintro e w7 ⟨rfl, b7⟩
        have b57 : Below w4.heap.size w4 w7 := R5.out.2.trans (b7.out.mono R5.out.2.size)
        have H7 := hide' (H4.out.1.new b57 (row_below R5.out.1 b7.out))
        have Bw7 := hide' (H4.out.2.trans (b57.mono H4.out.1.lo))
        clear A3 b6 b7 b57 R5 H4
        generalize L'.length = nl at *
        go_wp2_with (at_builtin; refine M.wpList_more (e := 88) (m := 1) Try.underlying93 info88 rfl (by omega) (by omega) w7 rfl _ _ rfl H7.out.row (by have := Hlt.out; omega) H7.out.lo [.slice (some ⟨g, 0, none⟩) nl rc] rfl (by simp [Value.oneCell']) _ rfl rfl ?_; intro gg cap' w8 r8 t8 hg8; have K8 := hide' (H7.out.app (by rw [range_more']; exact r8) t8 hg8); clear r8 t8 hg8)
        exact ⟨⟨i + 1, L', Q', _, _, _, _, rfl, rfl, by first | rfl | rw [ew.out], Hlt.out.1, Hlt.out.2, K8.out.1, Bw7.out.trans K8.out.2⟩, by first | exact Hms.out | (rw [ew.out]; exact Hms.out)⟩
    · by_cases hT : i < T
      · have hlt' : (i : Int) < (T : Int) := by omega
        have hlt2' : ¬ (i : Int) < 30 := by omega
        clear hT
        have Hi := hide' hi2
        clear hi hi2 hlt
        have A1 := hide' (blocks_a H.out.1.z)
        go_wp2_with fail
        refine A1.out.mono ?_
        rintro e w2 ⟨g1, c1, rfl, r1, b1⟩
        have R1 := hide' (And.intro r1 b1)
        have H1 := hide' (H.out.1.new b1 r1)
        have A2 := hide' (blocks_a H1.out.z)
        clear A1 r1 b1
        go_wp2_with fail
        refine A2.out.mono ?_
        rintro e w3 ⟨g2, c2, rfl, r2, b2⟩
        have R2 := hide' (And.intro r2 b2)
        have A3 := hide' (told H.out.1.z (R1.out.2.trans (b2.mono R1.out.2.size)) (row_below R1.out.1 b2))
        clear A2 r2 b2
        go_wp2_with fail
        refine A3.out.mono ?_
        rintro e w4 ⟨g3, c3, rfl, b4, A4⟩
        clear A3
        go_wp2_with fail
        refine A4.out.mono ?_
        rintro e w5 ⟨rfl, b5⟩
        have A5 := hide' (told H1.out.z (R2.out.2.trans (b5.out.mono R2.out.2.size)) (row_below R2.out.1 b5.out))
        clear A4 b4
        go_wp2_with fail
        refine A5.out.mono ?_
        rintro e w6 ⟨g4, c4, rfl, b6, A6⟩
        clear A5
        go_wp2_with fail
        refine A6.out.mono ?_
        rintro e w7 ⟨rfl, b7⟩
        have b37 : Below w3.heap.size w3 w7 := b5.out.trans (b7.out.mono b5.out.size)
        have H7 := hide' (Li.below (H1.out.new R2.out.2 R2.out.1) b37)
        have Bw7 := hide' (H.out.2.trans (((R1.out.2.trans (R2.out.2.mono R1.out.2.size)).trans (b37.mono (Nat.le_trans R1.out.2.size R2.out.2.size))).mono H.out.1.lo))
        clear A6 b5 b6 b7 b37 R1 R2 H1 H
        generalize L.length = nl at *
        go_wp2_with (at_builtin; refine wpList_two w7 rfl _ _ rfl H7.out.row (by have := Hi.out; omega) H7.out.lo [.slice (some ⟨g1, 0, none⟩) nl c1, .slice (some ⟨g2, 0, none⟩) nl c2] rfl (by simp [Value.oneCell']) _ rfl rfl ?_; intro gg cap' w8 r8 t8 hg8; have K8 := hide' (H7.out.app (by rw [range_more2]; exact r8) t8 hg8); clear r8 t8 hg8)
        have GW := hide' (grown_any (B := wq.heap.size) (some ⟨gg, 0, none⟩) cap' _ _ w8 (by have := Hi.out; omega) K8.out.1.lo (Sl.of_row (lc := cap') K8.out.1.row) K8.out.1.rows K8.out.1.dj (fun k hk => Nat.le_trans (K8.out.1.len k hk) (by omega)))
        have Bw8 := hide' (Bw7.out.trans K8.out.2)
        clear H7 Bw7
        refine GW.out.mono ?_
        rintro e w9 ⟨rfl, t9⟩
        have H9 := hide' (K8.out.1.grown t9)
        have A7 := hide' (blocks_a H9.out.1)
        clear GW K8 t9
        go_wp2_with fail
        refine A7.out.mono ?_
        rintro e wA ⟨g5, c5, rfl, rA, bA⟩
        have RA := hide' bA
        have A8 := hide' (told H9.out.1 bA rA)
        clear A7 rA bA
        go_wp2_with fail
        refine A8.out.mono ?_
        rintro e wB ⟨g6, c6, rfl, bB, A9⟩
        clear A8
        go_wp2_with fail
        refine A9.out.mono ?_
        rintro e wC ⟨rfl, bC⟩
        have b9C := hide' (RA.out.trans (bC.out.mono RA.out.size))
        have AA := hide' (live_a (H9.out.1.below b9C.out))
        clear A9 bB bC RA
        go_wp2_with fail
        refine AA.out.mono ?_
        rintro e wD ⟨rfl, hwD⟩
        obtain rfl := hwD
        have AB := hide' (live_d (H9.out.1.below b9C.out))
        clear AA
        go_wp2_with fail
        refine AB.out.mono ?_
        rintro e wE ⟨rfl, bE⟩
        have BE := hide' bE
        clear AB bE
        go_wp2
        go_ret
        exact ⟨rfl, B1.out.trans ((Bw8.out.trans (H9.out.2.trans ((b9C.out.trans (BE.out.mono b9C.out.size)).mono (Nat.le_trans Bw8.out.size H9.out.2.size)))).mono B1.out.size)⟩
      · have hlt' : ¬ (i : Int) < (T : Int) := by omega
        clear hT
        have Hi := hide' hi2
        clear hi hi2 hlt
        have A1 := hide' (blocks_a H.out.1.z)
        go_wp2_with fail
        refine A1.out.mono ?_
        rintro e w2 ⟨g1, c1, rfl, r1, b1⟩
        have R1 := hide' (And.intro r1 b1)
        have H1 := hide' (H.out.1.new b1 r1)
        have A2 := hide' (blocks_a H1.out.z)
        clear A1 r1 b1
        go_wp2_with fail
        refine A2.out.mono ?_
        rintro e w3 ⟨g2, c2, rfl, r2, b2⟩
        have R2 := hide' (And.intro r2 b2)
        have A3 := hide' (told H.out.1.z (R1.out.2.trans (b2.mono R1.out.2.size)) (row_below R1.out.1 b2))
        clear A2 r2 b2
        go_wp2_with fail
        refine A3.out.mono ?_
        rintro e w4 ⟨g3, c3, rfl, b4, A4⟩
        clear A3
        go_wp2_with fail
        refine A4.out.mono ?_
        rintro e w5 ⟨rfl, b5⟩
        have A5 := hide' (told H1.out.z (R2.out.2.trans (b5.out.mono R2.out.2.size)) (row_below R2.out.1 b5.out))
        clear A4 b4
        go_wp2_with fail
        refine A5.out.mono ?_
        rintro e w6 ⟨g4, c4, rfl, b6, A6⟩
        clear A5
        go_wp2_with fail
        refine A6.out.mono ?_
        rintro e w7 ⟨rfl, b7⟩
        have b37 : Below w3.heap.size w3 w7 := b5.out.trans (b7.out.mono b5.out.size)
        have H7 := hide' (Li.below (H1.out.new R2.out.2 R2.out.1) b37)
        have Bw7 := hide' (H.out.2.trans (((R1.out.2.trans (R2.out.2.mono R1.out.2.size)).trans (b37.mono (Nat.le_trans R1.out.2.size R2.out.2.size))).mono H.out.1.lo))
        clear A6 b5 b6 b7 b37 R1 R2 H1 H
        generalize L.length = nl at *
        go_wp2_with (at_builtin; refine wpList_two w7 rfl _ _ rfl H7.out.row (by have := Hi.out; omega) H7.out.lo [.slice (some ⟨g1, 0, none⟩) nl c1, .slice (some ⟨g2, 0, none⟩) nl c2] rfl (by simp [Value.oneCell']) _ rfl rfl ?_; intro gg cap' w8 r8 t8 hg8; have K8 := hide' (H7.out.app (by rw [range_more2]; exact r8) t8 hg8); clear r8 t8 hg8)
        have GW := hide' (grown_any (B := wq.heap.size) (some ⟨gg, 0, none⟩) cap' _ _ w8 (by have := Hi.out; omega) K8.out.1.lo (Sl.of_row (lc := cap') K8.out.1.row) K8.out.1.rows K8.out.1.dj (fun k hk => Nat.le_trans (K8.out.1.len k hk) (by omega)))
        have Bw8 := hide' (Bw7.out.trans K8.out.2)
        clear H7 Bw7
        refine GW.out.mono ?_
        rintro e w9 ⟨rfl, t9⟩
        have H9 := hide' (K8.out.1.grown t9)
        have A7 := hide' (blocks_a H9.out.1)
        clear GW K8 t9
        go_wp2_with fail
        refine A7.out.mono ?_
        rintro e wA ⟨g5, c5, rfl, rA, bA⟩
        have RA := hide' bA
        have A8 := hide' (told H9.out.1 bA rA)
        clear A7 rA bA
        go_wp2_with fail
        refine A8.out.mono ?_
        rintro e wB ⟨g6, c6, rfl, bB, A9⟩
        clear A8
        go_wp2_with fail
        refine A9.out.mono ?_
        rintro e wC ⟨rfl, bC⟩
        have b9C := hide' (RA.out.trans (bC.out.mono RA.out.size))
        have AA := hide' (live_a (H9.out.1.below b9C.out))
        clear A9 bB bC RA
        go_wp2_with fail
        refine AA.out.mono ?_
        rintro e wD ⟨rfl, hwD⟩
        obtain rfl := hwD
        have AB := hide' (live_d (H9.out.1.below b9C.out))
        clear AA
        go_wp2_with fail
        refine AB.out.mono ?_
        rintro e wE ⟨rfl, bE⟩
        have BE := hide' bE
        clear AB bE
        go_wp2
        go_ret
        exact ⟨rfl, B1.out.trans ((Bw8.out.trans (H9.out.2.trans ((b9C.out.trans (BE.out.mono b9C.out.size)).mono (Nat.le_trans Bw8.out.size H9.out.2.size)))).mono B1.out.size)⟩
end Lx
end Go.Proofs.Ytfeehnfpfheojaa
