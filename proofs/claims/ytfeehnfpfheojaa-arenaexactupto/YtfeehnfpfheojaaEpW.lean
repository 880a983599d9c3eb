import Derived.Test.YtfeehnfpfheojaaJE
import Derived.Test.YtfeehnfpfheojaaR28
set_option linter.unusedVariables false
set_option linter.unusedSimpArgs false
namespace Go.Proofs.Ytfeehnfpfheojaa
open Go.RowKit Go.Sort
namespace Ep
open Fr Ar Ra
theorem wsu {i T : Nat} (h : i < T) (hT : T ≤ 1048576) : wrap64 ((i : Int) + 1) = (((i + 1 : Nat)) : Int) := by unfold wrap64; omega
set_option maxRecDepth 100000 in
set_option maxHeartbeats 8000000 in
theorem exact_walk (sa : Option Addr) (sc N : Nat) (fs : Nat → Int × Int) (pa : Option Addr) (pc : Nat) (os : List Op4) (w : World) (hs : Ss w sa N fs) (hp : Ops w pa os) (hok : ∀ o ∈ os, o.ok) (hl : N + os.length ≤ 1048576) :
    Calls Try.prog 5 #[.slice sa N sc, .slice pa os.length pc] w fun e w' => e = .returned (.bool true) ∧ Below w.heap.size w w' := by
  have HNs := hide' (fun w' (b : Below w.heap.size w w') => Ss.below hs b)
  have HP := hide' (And.intro hp hok)
  obtain ⟨T, hT⟩ : ∃ T, T = os.length := ⟨_, rfl⟩
  have HL := hide' (And.intro hl hT)
  rw [← hT]
  have HA := hide' (Lv.lively_any w)
  have HN0 := hide' (fun (W : World) => new_nil W 0)
  have he70 := eq70
  have he63 := eq63
  have he73 := eq73
  have hn73 := ne73
  clear hs hp hok hl hT
  go_enter Try.func5, Try.ntmps5
  go_wp2_with fail
  refine HA.out.mono ?_
  rintro e w1 ⟨rfl, b1⟩
  have B1 := hide' b1
  clear b1 HA
  go_wp2_with fail
  refine (HN0.out _).mono ?_
  rintro e w1' ⟨rfl, hw1⟩
  obtain rfl := hw1
  clear HN0
  go_wp2_with fail
  go_loopw [8, 9] (fun av iv wx => ∃ (i n : Nat) (R : Nat → Rc) (ro : Option Addr) (rc : Nat), av = .slice ro n rc ∧ iv = .int .i64 (i : Int) ∧ i ≤ N ∧ n ≤ i ∧ Fa w.heap.size 0 n R ro rc wx ∧ Below w.heap.size w wx) (fun _ iv _ => N - (intOf iv).toNat)
  case atStart => exact ⟨0, 0, fun _ => ⟨0, fun _ => False⟩, none, 0, rfl, rfl, Nat.zero_le _, Nat.le_refl _, fa_none _ _ _ B1.out.size, B1.out⟩
  case round =>
    obtain ⟨i, n, R, ro, rc, rfl, rfl, hi, hni, f, bw⟩ := hrel
    clear B1
    by_cases hlt : i < N
    · have hlt' : (i : Int) < (N : Int) := by omega
      have Hlt := hide' (And.intro hlt hni)
      have ew := hide' (wsu hlt (by have := HL.out; omega))
      have Hms := hide' (msr2 hlt _ rfl)
      rcases HNs.out _ bw with q | ⟨xb, xo, hsa, hxb, hxc⟩
      · omega
      obtain ⟨y0, y1⟩ := hxc i hlt
      obtain ⟨⟨a, fst⟩, hfs⟩ : ∃ q, fs i = q := ⟨_, rfl⟩
      rw [hfs] at y0 y1
      simp only at y0 y1
      obtain rfl := hsa
      obtain ⟨m, hm⟩ : ∃ m : Nat, a % 200 = (m : Int) := ⟨(a % 200).toNat, by omega⟩
      have hm2 : m < 200 := by omega
      have HAt : Hid (∀ W, Calls Try.prog 15 #[.int .i64 a, .int .i64 200] W fun e w' => e = .returned (.int .i64 (m : Int)) ∧ w' = W) := hide' (fun W => by
        have := Bk.at_any a 200 W (by omega) (by omega)
        rw [hm] at this
        exact this)
      have Hm : Hid (wrap64 (1 + (m : Int)) = ((m + 1 : Nat) : Int)) := hide' (by unfold wrap64; omega)
      have HF := hide' (And.intro f (And.intro bw hm2))
      have hgl := bw.size
      have Hcell : Hid (∀ W, Below wr.heap.size wr W → W.cell? ⟨xb, xo + i * 2 + 1, none⟩ = some (.int .i64 fst)) := hide' (fun W b => (b.cell (p := ⟨xb, xo + i * 2 + 1, none⟩) hxb).trans y1)
      by_cases hf : 0 ≤ fst ∧ fst < ((m + 1 : Nat) : Int)
      · obtain ⟨k, hk⟩ : ∃ k : Nat, fst = (k : Int) := ⟨fst.toNat, by omega⟩
        have HM := hide' (made_yes hm2 (n := k) (by omega) wr hgl)
        rw [← hk] at HM
        clear hm hm2 hf hk f bw hgl hi hni hlt hxb hxc hfs
        go_wp2_with fail
        refine (HAt.out _).mono ?_
        rintro e wq ⟨rfl, hwq⟩
        obtain rfl := hwq
        clear HAt
        go_wp2_with fail
        rw [Hm.out]
        generalize ((m + 1 : Nat) : Int) = mm at *
        refine HM.out.mono ?_
        rintro e wa ⟨x, rfl, Ba, HM2⟩
        have y2 := Hcell.out wa Ba.out
        clear HM y0 y1
        go_wp2_with fail
        refine HM2.out.mono ?_
        rintro e wb ⟨ab, rfl, Bb, HM3⟩
        have y3 := Hcell.out wb Bb.out
        clear HM2 y2
        go_wp2_with fail
        refine HM3.out.mono ?_
        rintro e wc ⟨rb, rfl, HR⟩
        clear HM3 y3
        have Hrow : Hid (∀ W, Below wq.heap.size wq W → W.ownsRow w.heap.size 76 1 (.slice ro n rc) n ((List.range n).map fun i => (R i).v) ∧ w.heap.size ≤ W.heap.size) := hide' (fun W b => ⟨(HF.out.1.below b).row, (HF.out.1.below b).lo⟩)
        obtain ⟨Q, p1, p2, p3⟩ := HR.out
        have HB := Hrow.out _ p3
        have Hil : Hid (n < 3000000000000) := hide' (by have := Hlt.out; have := HL.out; omega)
        have HP2 := hide' (And.intro p1 (And.intro p2 (And.intro p3 HB)))
        clear HR p1 p2 p3 HB
        go_upto_region 18 with fail
        go_wp2_with (at_builtin; refine M.wpList_more (e := 76) (m := 1) Try.underlying67 info76 rfl (by omega) (by omega) (wc.alloc (.cells #[.pointer (some ⟨x, 0, none⟩), .pointer (some ⟨ab, 0, none⟩), .pointer (some ⟨rb, 0, none⟩), .int .i64 0] 78)) rfl _ _ rfl HP2.out.2.2.2.1 Hil.out HP2.out.2.2.2.2 [.pointer (some ⟨wc.heap.size, 0, none⟩)] rfl (by simp [Value.oneCell']) 1 rfl (by rw [World.size_alloc]; rfl) ?_; intro gg cap' w5 r5 t5 a5; have K5 := hide' (And.intro r5 (And.intro t5 a5)); clear r5 t5 a5)
        have hw5 := (HF.out.2.1.trans (HP2.out.2.2.1.mono HF.out.2.1.size)).trans (K5.out.2.1.below (fun j hj => (row_kd HP2.out.2.2.2.1 hj).2.1) HP2.out.2.2.2.2)
        refine ⟨⟨i + 1, n + 1, upd R n ⟨wc.heap.size, Q⟩, some ⟨gg, 0, none⟩, cap', rfl, by first | rfl | rw [ew.out], Hlt.out.1, Nat.succ_le_succ Hlt.out.2, Fa.add HF.out.1 HP2.out.2.2.1 HP2.out.1 HP2.out.2.1 K5.out.2.1 K5.out.1 K5.out.2.2, hw5⟩, by first | exact Hms.out | (rw [ew.out]; exact Hms.out)⟩
      · have HM := hide' (made_no hm2 (f := fst) (by omega) wr)
        clear hm hm2 hf f bw hgl hi hni hlt hxb hxc hfs
        go_wp2_with fail
        refine (HAt.out _).mono ?_
        rintro e wq ⟨rfl, hwq⟩
        obtain rfl := hwq
        clear HAt
        go_wp2_with fail
        rw [Hm.out]
        generalize ((m + 1 : Nat) : Int) = mm at *
        refine HM.out.mono ?_
        rintro e wa ⟨x, rfl, Ba, HM2⟩
        have y2 := Hcell.out wa Ba.out
        clear HM y0 y1
        go_wp2_with fail
        refine HM2.out.mono ?_
        rintro e wb ⟨rfl, Bb, HM3⟩
        have y3 := Hcell.out wb Bb.out
        clear HM2 y2
        go_wp2_with fail
        refine HM3.out.mono ?_
        rintro e wc ⟨rfl, HR⟩
        clear HM3 y3
        go_wp2
        exact ⟨⟨i + 1, n, R, ro, rc, rfl, by first | rfl | rw [ew.out], Hlt.out.1, Nat.le_succ_of_le Hlt.out.2, HF.out.1.below HR.out, HF.out.2.1.trans (HR.out.mono HF.out.2.1.size)⟩, by first | exact Hms.out | (rw [ew.out]; exact Hms.out)⟩
    · have hlt' : ¬ (i : Int) < (N : Int) := by omega
      have hnN : n + T ≤ 1048576 := by have := HL.out; omega
      have HF := hide' (And.intro f (And.intro bw hnN))
      clear f bw hi hlt hni hnN HNs
      go_wp2_with fail
      clear hlt'
      go_loopw [5, 17] (fun ov jv wx => ∃ (j : Nat) (R : Nat → Rc), ov = .bool true ∧ jv = .int .i64 (j : Int) ∧ j ≤ T ∧ Fa w.heap.size j n R ro rc wx ∧ Below w.heap.size w wx) (fun _ jv _ => T - (intOf jv).toNat)
      case atStart => exact ⟨0, R, rfl, rfl, Nat.zero_le _, HF.out.1, HF.out.2.1⟩
      case round =>
        obtain ⟨j, R2, rfl, rfl, hj, f, bw⟩ := hrel
        by_cases hjl : j < T ∧ 0 < n
        · obtain ⟨hjT, hN0⟩ := hjl
          have hjT' : (j : Int) < (T : Int) := by omega
          have hN0' : (0 : Int) < (n : Int) := by omega
          have HjT := hide' hjT
          have ew := hide' (wsu hjT (by have := HF.out; omega))
          have Hms := hide' (msr2 hjT _ rfl)
          have hjo : j < os.length := by rw [← HL.out.2]; exact hjT
          rcases HP.out.1 with q | ⟨yb, yo, hpa, hyb, hyc⟩
          · rw [q] at hjo; simp at hjo
          obtain ⟨o, ho⟩ : ∃ o, os[j]? = some o := ⟨_, List.getElem?_eq_getElem hjo⟩
          have hok := HP.out.2 o (List.mem_of_getElem? ho)
          have hyc' := fun r hr => (bw.cell (p := ⟨yb, yo + j * 4 + r, none⟩) hyb).trans (hyc j o ho r hr)
          have y0 : wr.cell? ⟨yb, yo + j * 4, none⟩ = some (.int .i64 o.kind) := (hyc' 0 (by omega)).trans rfl
          have y1 : wr.cell? ⟨yb, yo + j * 4 + 1, none⟩ = some (.int .i64 o.arena) := (hyc' 1 (by omega)).trans rfl
          have y2 : wr.cell? ⟨yb, yo + j * 4 + 2, none⟩ = some (.int .i64 o.n) := (hyc' 2 (by omega)).trans rfl
          have y3 : wr.cell? ⟨yb, yo + j * 4 + 3, none⟩ = some (.int .i64 o.value) := (hyc' 3 (by omega)).trans rfl
          obtain rfl := hpa
          obtain ⟨p, hpn⟩ : ∃ p : Nat, o.arena % (n : Int) = (p : Int) := ⟨(o.arena % (n : Int)).toNat, by have := Int.emod_nonneg o.arena (show (n : Int) ≠ 0 by omega); omega⟩
          have hpN : p < n := by have := Int.emod_lt_of_pos o.arena (show 0 < (n : Int) by omega); omega
          have hpN' : (p : Int) < (n : Int) := by omega
          have HA15 : Hid (∀ W, Calls Try.prog 15 #[.int .i64 o.arena, .int .i64 (n : Int)] W fun e w' => e = .returned (.int .i64 (p : Int)) ∧ w' = W) := hide' (fun W => by
            have := Bk.at_any o.arena (n : Int) W (by omega) (by have := HF.out; omega)
            rw [hpn] at this
            exact this)
          obtain ⟨g, hro, cp⟩ := f.ptr hpN
          obtain rfl := hro
          have C33 : Hid (∀ W, (∃ m, W = wr.drewN m) → Calls Try.prog 33 #[.pointer (some ⟨(R2 p).nb, 0, none⟩), .agg #[.int .i64 o.kind, .int .i64 o.arena, .int .i64 o.n, .int .i64 o.value]] W fun e w' => e = .returned (.bool true) ∧ ∃ R', Fa w.heap.size (j + 1) n R' (some ⟨g, 0, none⟩) rc w' ∧ Below w.heap.size w w') := hide' (fun W ⟨m, hW⟩ => by
            rw [hW]
            exact ((f.below (Ra.bel_drewN (Below.refl _ _) m)).one hpN o.kind o.arena o.n o.value hok (by have := HF.out; omega)).mono (fun e w' ⟨a1, R', a2, a3⟩ => ⟨a1, R', a2, (Ra.bel_drewN bw m).trans a3⟩))
          generalize (R2 p).nb = pn at *
          generalize o.kind = ok at *
          generalize o.arena = oa at *
          generalize o.n = on at *
          generalize o.value = ov at *
          clear HF f bw hyc hyb hj hjT hN0 hpN hpn hjo hok hyc' ho
          go_wp2_with fail
          go_region_law ((first | (go_simp; refine (HA15.out _).mono ?_; rintro e w8 ⟨rfl, rfl⟩) | (go_simp; refine (C33.out _ ⟨1, rfl⟩).mono ?_; rintro e w9 ⟨rfl, R9, f9, b9⟩)))
          all_goals
            have K9 := hide' (And.intro f9 b9)
            clear f9 b9 y0 y1 y2 y3 cp C33 HA15
            go_wp2
            exact ⟨⟨j + 1, R9, rfl, by first | rfl | rw [ew.out], HjT.out, K9.out.1, K9.out.2⟩, by first | exact Hms.out | (rw [ew.out]; exact Hms.out)⟩
        · have HF2 := hide' (And.intro f bw)
          have HNN := hide' HF.out.2.2
          clear HF
          by_cases hjT : j < T
          · have hN0 : n = 0 := by omega
            have hjT' : (j : Int) < (T : Int) := by omega
            have hN0' : ¬ (0 : Int) < (n : Int) := by omega
            have Hn0 := hide' hN0
            clear f bw hjl hj hjT hN0
            go_wp2_with fail
            go_loopw [5, 18] (fun ov iv wx => ∃ (i : Nat), ov = .bool true ∧ iv = .int .i64 (i : Int) ∧ i ≤ n ∧ Below w.heap.size w wx) (fun _ iv _ => n - (intOf iv).toNat)
            case atStart => exact ⟨0, rfl, rfl, Nat.zero_le _, HF2.out.2⟩
            case round =>
              obtain ⟨i, rfl, rfl, hi, bw⟩ := hrel
              have hlt' : ¬ (i : Int) < (n : Int) := by have := Hn0.out; omega
              have HBw := hide' bw
              clear bw hi
              go_wp2
              go_ret
              exact ⟨rfl, HBw.out⟩
          · have hjT' : ¬ (j : Int) < (T : Int) := by omega
            have Hn := hide' (show n ≤ 1048576 by have := HNN.out; omega)
            have Hj := hide' (show j ≤ 1048576 by have := HNN.out; omega)
            clear f bw hjl hj hjT
            go_wp2_with fail
            go_loopw [5, 18] (fun ov iv wx => ∃ (i : Nat), ov = .bool true ∧ iv = .int .i64 (i : Int) ∧ i ≤ n ∧ Fa w.heap.size j n R2 ro rc wx ∧ Below w.heap.size w wx) (fun _ iv _ => n - (intOf iv).toNat)
            case atStart => exact ⟨0, rfl, rfl, Nat.zero_le _, HF2.out⟩
            case round =>
              obtain ⟨i, rfl, rfl, hi, f, bw⟩ := hrel
              clear HF2
              by_cases hlt : i < n
              · have hlt' : (i : Int) < (n : Int) := by omega
                have Hlt := hide' hlt
                have ew := hide' (wsu hlt Hn.out)
                have Hms := hide' (msr2 hlt _ rfl)
                obtain ⟨g, hro, cp⟩ := f.ptr hlt
                obtain rfl := hro
                obtain ⟨x, ab, rb, s, L, ws, tr, D, E, cb, cnt, pp, e1, e2, e3, e4⟩ := f.pn i hlt
                generalize (R2 i).nb = nb at *
                have HF := hide' (And.intro f bw)
                have c0 := pp.c0
                have c2 := pp.c2
                obtain ⟨wo, wc, r1⟩ := pp.words
                have HC := hide' (Pp.checks pp (by have := Hj.out; omega) r1)
                have c0' : wr.drew.cell? ⟨nb, 0, none⟩ = some (.pointer (some ⟨x, 0, none⟩)) := c0
                have c2' : wr.drew.cell? ⟨nb, 2, none⟩ = some (.pointer (some ⟨rb, 0, none⟩)) := c2
                have r1' : wr.drew.cell? ⟨rb, 1, none⟩ = some (.slice wo ws.length wc) := r1
                clear pp e1 e2 e3 e4 f bw hi hlt
                go_wp2_with fail
                generalize ws.length = Nw at *
                generalize tr.length = Nt at *
                go_region_with (refine HC.out.mono ?_; rintro e V ⟨rw', rcw, rfl, ⟨v0, v1, v2, v3, v4⟩, KV⟩)
                all_goals
                  have BV := hide' KV.out.1
                  have LK := hide' KV.out.2
                  clear KV HC c0 c2 c0' c2' r1 r1' cp
                  generalize L.length = Nl at *
                  go_wp2_with fail
                  refine reg28 (D := []) LK ⟨v0, v1, v2, v3, v4⟩ (fun g37 r37 g38 r38 kk tq tc w8 b8 => ?_)
                  have B8 := hide' b8
                  clear b8 LK v0 v1 v2 v3 v4
                  go_wp2_with fail
                  exact ⟨⟨i + 1, rfl, by first | rfl | rw [ew.out], Hlt.out, HF.out.1.below (BV.out.trans (B8.out.mono BV.out.size)), HF.out.2.trans ((BV.out.trans (B8.out.mono BV.out.size)).mono HF.out.2.size)⟩, by first | exact Hms.out | (rw [ew.out]; exact Hms.out)⟩
              · have hlt' : ¬ (i : Int) < (n : Int) := by omega
                have HBw := hide' bw
                clear f bw hi hlt
                go_wp2
                go_ret
                exact ⟨rfl, HBw.out⟩
end Ep
end Go.Proofs.Ytfeehnfpfheojaa
