import Derived.Test.YtihdagehenmolaaCtP
set_option linter.unusedVariables false
set_option linter.unusedSimpArgs false
namespace Go.Proofs.Ytihdagehenmolaa
open Go.RowKit
namespace J
open M K
/-- behind k entries: their records, they themselves, their ends -/
structure Ct (w : World) (F : List En) (k : Nat) (T : ByteArray) (aw : Option Addr) (cw : Nat) (ae : Option Addr) (ce : Nat) (wx : World) : Prop where
  t : T = sb (recs (F.take k))
  want : Es w.heap.size aw cw (F.take k) wx
  ends : Own 1 3 iarr w.heap.size (.slice ae (enl F k).length ce) (enl F k) wx
  bel : Below w.heap.size w wx
theorem Ct.to {w : World} {F : List En} {k : Nat} {T : ByteArray} {aw : Option Addr} {cw : Nat} {ae : Option Addr} {ce : Nat} {wx wy : World} (h : Ct w F k T aw cw ae ce wx) (b : Below wx.heap.size wx wy) : Ct w F k T aw cw ae ce wy :=
  ⟨h.t, h.want.below b, h.ends.below b, h.bel.trans (b.mono h.bel.size)⟩
theorem m_le {m k : Nat} (h : m ≤ k * 65553) (h2 : k ≤ 5864062014634) : m ≤ 4611686018427387903 := by omega
theorem rl_le {fl : Nat} (h : fl ≤ 65536) : 17 + fl ≤ 65553 := by omega
theorem wrl {fl : Nat} (h : fl ≤ 65536) : wrap64 ((fl : Int) + 17) = ((17 + fl : Nat) : Int) := by unfold wrap64; omega
theorem over_no {ts rl k n : Nat} (h1 : ts ≤ k * 65553) (h2 : rl ≤ 65553) (h3 : k < n) (h4 : n ≤ 5864062014634) : ¬ 9223372036854775807 < ts + rl := by omega
set_option maxRecDepth 100000 in
set_option maxHeartbeats 4000000 in
theorem cut_law (ns : List En) (cut : Int) (pa : Option Addr) (pc : Nat) (w : World) (hI : Rw 2 En.arr w pa ns) (hs : ns.length ≤ 5864062014634) : Calls Try.prog 7 #[.slice pa ns.length pc, .int .i64 cut] w fun r w' => r = .returned (.bool true) ∧ Below w.heap.size w w' := by
  obtain ⟨F, hF⟩ : ∃ F, F = ns.map ft := ⟨_, rfl⟩
  have hFl : F.length = ns.length := by rw [hF]; simp
  have hFo : ∀ e ∈ F, e.ok := by rw [hF]; exact ft_all ns
  obtain ⟨n, hn⟩ : ∃ n, n = ns.length := ⟨_, rfl⟩
  have HF := hide' (And.intro hF (And.intro (hFl.trans hn.symm) hFo))
  have HI := hide' hI
  have HS : Hid (n ≤ 5864062014634) := hide' (by rw [hn]; exact hs)
  have HN := hide' hn
  rw [← hn]
  have C1 := hide' (alive_any w)
  clear hF hFl hFo hn hI hs
  go_enter Try.func7, Try.ntmps7
  go_wp2_with fail
  refine C1.out.mono ?_
  rintro x w1 ⟨rfl, b1⟩
  have B1 := hide' b1
  clear b1 C1
  go_wp2_with fail
  go_loopw [6, 7, 8, 9] (fun bs v u i wx => ∃ (k : Nat) (T : ByteArray) (aw : Option Addr) (cw : Nat) (ae : Option Addr) (ce : Nat), bs = .string T ∧ v = .slice aw (F.take k).length cw ∧ u = .slice ae (enl F k).length ce ∧ i = .int .i64 (k : Int) ∧ k ≤ n ∧ Ct w F k T aw cw ae ce wx) (fun _ _ _ i _ => n - (intOf i).toNat)
  case atStart => exact ⟨0, ⟨#[]⟩, none, 0, none, 0, rfl, rfl, rfl, rfl, Nat.zero_le _, rfl, own_nil 2 24 En.arr _ _, own_nil 1 3 iarr _ _, B1.out⟩
  case round =>
    obtain ⟨k, T, aw, cw, ae, ce, rfl, rfl, rfl, rfl, hk, hC⟩ := hrel
    have HC := hide' hC
    obtain ⟨L, hL⟩ : ∃ L, L = F.take k := ⟨_, rfl⟩
    obtain ⟨E, hE⟩ : ∃ L, L = enl F k := ⟨_, rfl⟩
    have HL : Hid (L = F.take k ∧ L.length = k ∧ E = enl F k ∧ E.length = k) := hide' ⟨hL, by rw [hL, List.length_take, HF.out.2.1]; omega, hE, by rw [hE, enl_len]⟩
    rw [← hL, ← hE]
    clear hC hL hE
    by_cases hlt : k < n
    · have hlt' : (k : Int) < (n : Int) := by omega
      obtain ⟨x, hx⟩ : ∃ x, ns[k]? = some x := ⟨_, List.getElem?_eq_getElem (by rw [← HN.out]; exact hlt)⟩
      have hFx : F[k]? = some (ft x) := by rw [HF.out.1, List.getElem?_map, hx]; rfl
      have HFx := hide' hFx
      rcases HI.out.below HC.out.bel with q | ⟨pb, po, rfl, hpb, hpc⟩
      · rw [q] at hx; simp at hx
      obtain ⟨y0, y1⟩ := e_cells hpc hx
      have ek := hide' (wsucN k (by have := HS.out; omega))
      have Hms := hide' (msr' hlt _ rfl)
      have Hlt := hide' hlt
      have D1 := hide' (fit_any x wr)
      have D2 : Hid (∀ W, _) := hide' (fun W => frame_ok (ft x) (ft_ok x) W)
      have zt := sb_size (ft x).t
      have zr := sb_size (rcd (ft x))
      rw [rec_len] at zr
      have hxl := (ft_ok x).2.2
      obtain ⟨xv, hxv⟩ : ∃ v, v = x.v := ⟨_, rfl⟩
      obtain ⟨xT, hxT⟩ : ∃ v, v = sb x.t := ⟨_, rfl⟩
      obtain ⟨fv, hfv⟩ : ∃ v, v = (ft x).v := ⟨_, rfl⟩
      obtain ⟨fT, hfT⟩ : ∃ v, v = sb (ft x).t := ⟨_, rfl⟩
      obtain ⟨fl, hfl⟩ : ∃ v, v = (ft x).t.length := ⟨_, rfl⟩
      obtain ⟨fR, hfR⟩ : ∃ v, v = sb (rcd (ft x)) := ⟨_, rfl⟩
      have HV := hide' (And.intro hfv (And.intro hfT (And.intro hfl hfR)))
      rw [← hxv] at y0 D1
      rw [← hxT] at y1 D1
      rw [← hfv, ← hfT] at D1 D2
      rw [← hfR] at D2 zr
      rw [← hfT, ← hfl] at zt
      rw [← hfl] at zr hxl
      obtain ⟨rl, hrl⟩ : ∃ r, r = 17 + fl := ⟨_, rfl⟩
      rw [← hrl] at zr
      have w1' : wrap64 ((fl : Int) + 17) = (rl : Int) := by rw [hrl]; exact wrl hxl
      have HRL := hide' hrl
      obtain ⟨ts, hts⟩ : ∃ t, t = pre F k := ⟨_, rfl⟩
      have ht2 : T.size = ts := by rw [HC.out.t, sb_size, hts]; rfl
      have o1 : ¬ 9223372036854775807 < ts + rl := over_no (by rw [hts]; exact pre_le HF.out.2.2 k) (by rw [hrl]; exact rl_le hxl) hlt HS.out
      have Hts := hide' hts
      clear hk hlt hx hpb hpc hFx hxv hxT hfv hfT hfl hfR hts hrl hxl
      go_wp2_with fail
      refine D1.out.mono ?_
      rintro e w2 ⟨rfl, b2⟩
      have K2 : Hid (Ct w F k T aw cw ae ce (w2.alloc (.cells #[.int .i64 fv, .string fT] 24)) ∧ (w2.alloc (.cells #[.int .i64 fv, .string fT] 24)).heap[w2.heap.size]? = some (.cells #[.int .i64 fv, .string fT] 24)) := hide' ⟨(HC.out.to b2).to (below_al _ _), heap_alloc_new _ _⟩
      have D3 := hide' (D2.out (w2.alloc (.cells #[.int .i64 fv, .string fT] 24)))
      clear b2 D1 D2 HC y0 y1
      go_wp2_with fail
      refine D3.out.mono ?_
      rintro e w3 ⟨rfl, b3⟩
      have h3 : w3.heap[w2.heap.size]? = some (.cells #[.int .i64 fv, .string fT] 24) := (b3.block _ (lt_of_heap K2.out.2)).trans K2.out.2
      have K3 : Hid (Ct w F k T aw cw ae ce w3 ∧ w3.heap[w2.heap.size]? = some (.cells #[.int .i64 fv, .string fT] 24)) := hide' ⟨K2.out.1.to b3, h3⟩
      have c0 := Lib.cell_of_heap h3 0
      have c1 := Lib.cell_of_heap h3 1
      clear b3 D3 K2 h3
      go_wp2_with (at_builtin; refine stay_app _ _ rfl ?_)
      unfold Stay
      have hLe : (L.length + 1) * 24 ≤ 140737488355328 := by rw [HL.out.2.1]; have := Hlt.out; have := HS.out; omega
      have hw3 : Es w.heap.size aw cw L w3 := by rw [HL.out.1]; exact K3.out.1.want
      rw [HV.out.1, HV.out.2.1]
      refine wpList_more (arr := En.arr) ha_e Try.underlying29 info24 rfl (by omega) w3 rfl _ _ rfl (ro := aw) (rc := cw) (ss := L) hw3 (by unfold maxLen; omega) hLe K3.out.1.bel.size (ft x) (one_e _) 1 (by rfl) (by rfl) ?_
      intro g4 c4 w4 o4 t4 p4
      have K4 : Hid (Es w.heap.size (some ⟨g4, 0, none⟩) c4 (L ++ [ft x]) w4 ∧ Own 1 3 iarr w.heap.size (.slice ae E.length ce) E w4 ∧ Below w.heap.size w w4) := hide' ⟨o4, by
        have := Own.apart K3.out.1.ends K3.out.1.want (by decide) t4
        rw [HL.out.2.2.1]; exact this, K3.out.1.bel.trans (hw3.keep t4 K3.out.1.bel.size)⟩
      rw [← HV.out.1, ← HV.out.2.1]
      clear o4 t4 p4 hw3 hLe c0 c1
      go_wp2_with (at_builtin; refine stay_app _ _ rfl ?_)
      unfold Stay
      have hpr : Hid ((ts : Int) + (rl : Int) = ((pre F (k + 1) : Nat) : Int)) := hide' (by rw [pre_len HFx.out, Hts.out, HRL.out, HV.out.2.2.1]; simp)
      refine wpList_more (arr := iarr) ha_i Try.underlying56 info3 rfl (by omega) w4 rfl _ _ rfl (ro := ae) (rc := ce) (ss := E) K4.out.2.1 (by rw [HL.out.2.2.2]; have := Hlt.out; have := HS.out; unfold maxLen; omega) (by rw [HL.out.2.2.2]; have := Hlt.out; have := HS.out; omega) K4.out.2.2.size ((ts : Int) + (rl : Int)) (one_i _) 1 (by rfl) (by rfl) ?_
      intro g5 c5 w5 o5 t5 p5
      have hLk : L ++ [ft x] = F.take (k + 1) := by rw [HL.out.1, List.take_add_one, HFx.out]; rfl
      have hEk : E ++ [(ts : Int) + (rl : Int)] = enl F (k + 1) := by rw [HL.out.2.2.1, enl_succ, hpr.out]
      have K5 : Hid (Ct w F (k + 1) (T ++ fR) (some ⟨g4, 0, none⟩) c4 (some ⟨g5, 0, none⟩) c5 w5) := hide' ⟨by rw [K3.out.1.t, HV.out.2.2.2, sb_add, pre_succ HFx.out], by rw [← hLk]; exact Own.apart K4.out.1 K4.out.2.1 (by decide) t5, by rw [← hEk]; exact o5, K4.out.2.2.trans (K4.out.2.1.keep t5 K4.out.2.2.size)⟩
      have HQ : Hid (L.length + 1 = (F.take (k + 1)).length ∧ E.length + 1 = (enl F (k + 1)).length) := hide' ⟨by rw [← hLk, List.length_append]; rfl, by rw [← hEk, List.length_append]; rfl⟩
      clear o5 t5 p5 hLk hEk
      go_wp2
      refine ⟨⟨k + 1, T ++ fR, some ⟨g4, 0, none⟩, c4, some ⟨g5, 0, none⟩, c5, rfl, by rw [HQ.out.1], by rw [HQ.out.2], by first | rfl | rw [ek.out], Hlt.out, K5.out⟩, by first | exact Hms.out | (rw [ek.out]; exact Hms.out)⟩
    · have hlt' : ¬ ((k : Int) < (n : Int)) := by omega
      have hkn : k = n := by omega
      subst hkn
      have hTF : T = sb (recs F) := by rw [HC.out.t, List.take_of_length_le (by rw [HF.out.2.1]; omega)]
      have hTk : T.size = pre F k := by rw [HC.out.t, sb_size]; rfl
      obtain ⟨m, hm⟩ : ∃ m, m = pre F k := ⟨_, rfl⟩
      have hmb : m ≤ k * 65553 := by rw [hm]; exact pre_le HF.out.2.2 k
      have hml : m ≤ 4611686018427387903 := m_le hmb HS.out
      have P1 := hide' (pick_any cut (m + 1) (by omega) (by omega) wr)
      obtain ⟨K, hK⟩ : ∃ K, K = pk cut (m + 1) := ⟨_, rfl⟩
      have hKm : K ≤ m := by rw [hK]; have := pk_lt cut (n := m + 1) (by omega); omega
      rw [← hK] at P1
      rw [← hm] at hTk
      have wm : wrap64 ((m : Int) + 1) = ((m + 1 : Nat) : Int) := by unfold wrap64; omega
      obtain ⟨m1, hm1⟩ : ∃ M : Int, M = ((m + 1 : Nat) : Int) := ⟨_, rfl⟩
      rw [← hm1] at wm P1
      have HK := hide' (And.intro hTF (And.intro hm (And.intro hml hKm)))
      clear hlt hk hlt' hTF hm hmb hml hK hKm hm1
      go_wp2_with fail
      refine P1.out.mono ?_
      rintro e w2 ⟨rfl, rfl⟩
      clear P1 wm
      go_wp2_with fail
      obtain ⟨n, hn⟩ : ∃ n, n = E.length := ⟨_, rfl⟩
      have HnE : Hid (n = k ∧ n = E.length) := hide' ⟨by rw [hn, HL.out.2.2.2], hn⟩
      rw [← hn]
      clear hn
      go_loopw [14, 15, 16] (fun a b i wx => ∃ (j wh pw : Nat), a = .int .i64 (wh : Int) ∧ b = .int .i64 (pw : Int) ∧ i = .int .i64 (j : Int) ∧ j ≤ n ∧ pw = pre F wh ∧ Wh F K j wh ∧ wx = w2) (fun _ _ i _ => n - (intOf i).toNat)
      case atStart => exact ⟨0, 0, 0, rfl, rfl, rfl, Nat.zero_le _, by simp [pre, recs], Wh.zero F K, rfl⟩
      case round =>
        obtain ⟨j, wh, pw, rfl, rfl, rfl, hj, hpw, hW, rfl⟩ := hrel
        have HW := hide' (And.intro hpw hW)
        clear hpw hW
        by_cases hlt : j < n
        · have hlt' : (j : Int) < (n : Int) := by omega
          have hat := enl_at F (k := j) (n := k) (by rw [← HnE.out.1]; exact hlt)
          rw [← HL.out.2.2.1] at hat
          have hEo : Own 1 3 iarr w.heap.size (.slice ae E.length ce) E wr := by rw [HL.out.2.2.1]; exact HC.out.ends
          rcases hEo.rw' ha_i with q | ⟨pb, po, hao, hpb, hpc⟩
          · rw [q] at hat; simp at hat
          have y0 : wr.cell? ⟨pb, po + j, none⟩ = some (.int .i64 ((pre F (j + 1) : Nat) : Int)) := by
            have := hpc j _ hat 0 (by decide)
            rw [Nat.mul_one, Nat.add_zero] at this
            rw [this]; rfl
          rw [hao]
          obtain ⟨pj, hpj⟩ : ∃ p, p = pre F (j + 1) := ⟨_, rfl⟩
          rw [← hpj] at y0
          have HP := hide' (And.intro hpj hao)
          have ek := hide' (wsucN j (by have := HS.out; have := HnE.out.1; omega))
          have Hms := hide' (msr' hlt _ rfl)
          have Hlt := hide' hlt
          clear hj hlt hat hEo hpb hpc hpj
          by_cases hle : pj ≤ K
          · have hle' : (pj : Int) ≤ (K : Int) := by omega
            have hW2 : Hid (Wh F K (j + 1) (j + 1)) := hide' (HW.out.2.yes (by rw [← HP.out.1]; exact hle))
            clear hle hao
            go_wp2
            refine ⟨⟨j + 1, j + 1, pj, by first | rfl | rw [ek.out], rfl, by first | rfl | rw [ek.out], Hlt.out, HP.out.1, hW2.out, trivial⟩, by first | exact Hms.out | (rw [ek.out]; exact Hms.out)⟩
          · have hle' : ¬ ((pj : Int) ≤ (K : Int)) := by omega
            have hW2 : Hid (Wh F K (j + 1) wh) := hide' (HW.out.2.not (by rw [← HP.out.1]; exact hle))
            clear hle hao
            go_wp2
            refine ⟨⟨j + 1, wh, pw, rfl, rfl, by first | rfl | rw [ek.out], Hlt.out, HW.out.1, hW2.out, trivial⟩, by first | exact Hms.out | (rw [ek.out]; exact Hms.out)⟩
        · have hlt' : ¬ ((j : Int) < (n : Int)) := by omega
          have hjn : j = n := by omega
          have hR := HW.out.2
          rw [hjn, HnE.out.1] at hR
          rw [← HF.out.2.1] at hR
          have HR : Hid (Rds ((recs F).take K) (F.take wh)) := hide' (hR.read HF.out.2.2)
          have hwk : wh ≤ k := by have := hR.le; rw [HF.out.2.1] at this; exact this
          have x1 : T.extract 0 K = sb ((recs F).take K) := by rw [HK.out.1, sb_cut]; simp
          have C2 := hide' (read_few ((recs F).take K) (by rw [List.length_take]; have := HK.out.2.2.1; have := HK.out.2.2.2; omega) (fun es r h1 h2 => by
            have := chain_cut h1 HF.out.2.2 h2
            rw [HF.out.2.1] at this
            have := HS.out
            omega) wr)
          obtain ⟨TK, hTK⟩ : ∃ t, t = sb ((recs F).take K) := ⟨_, rfl⟩
          rw [← hTK] at x1 C2
          have gK : (K : Int) ≤ (m : Int) := by have := HK.out.2.2.2; omega
          have gK0 : (0 : Int) ≤ (K : Int) := by omega
          have Hwk := hide' hwk
          clear hlt hj hjn hR hTK hwk
          go_wp2_with fail
          refine C2.out.mono ?_
          rintro e w3 ⟨es, ag, cg, rfl, hr, ho, hb⟩
          have hes : es = F.take wh := hr.uniq HR.out
          subst hes
          have hlw : (F.take wh).length = wh := by rw [List.length_take, HF.out.2.1]; have := Hwk.out; omega
          have hpl : (recs (F.take wh)).length = pw := by rw [HW.out.1]; rfl
          have hwant := (HC.out.to hb).want
          have hW3 := hwant.rw' ha_e
          obtain ⟨_, _, hv, hLc, hLn, _⟩ := hwant.form
          rw [List.take_of_length_le (by rw [HF.out.2.1]; omega)] at hW3
          have S1 := hide' (same_any cg cw (ho.rw' ha_e) (Rw.take hW3 wh) (by rw [hlw]; have := Hwk.out; have := HS.out; omega))
          have B3 := hide' ((HC.out.to hb).bel)
          rw [hlw] at S1
          rw [hlw, hpl]
          have gw : (wh : Int) ≤ (cw : Int) := by
            cases hv
            rw [List.length_take, HF.out.2.1] at hLc
            have := Hwk.out
            omega
          have gw0 : (0 : Int) ≤ (wh : Int) := by omega
          clear hr ho hb hwant hW3 hv hLc hLn hlw hpl C2
          go_wp2_with fail
          refine S1.out.mono ?_
          rintro e w4 ⟨rfl, b4⟩
          have B4 := hide' (B3.out.trans (b4.mono B3.out.size))
          clear b4 S1 B3
          go_wp2
          go_ret
          exact ⟨rfl, B4.out⟩
end J
end Go.Proofs.Ytihdagehenmolaa
