import Derived.Test.YtihdagehenmolaaPoW
set_option linter.unusedVariables false
set_option linter.unusedSimpArgs false
namespace Go.Proofs.Ytihdagehenmolaa
open Go.RowKit
namespace J
open M K
theorem tk_few {B d s cap : Nat} {room : Int} {tk : List En} {ao : Option Addr} {w : World} (k : Dk B d room (recs tk) s ao cap w) : tk.length ≤ 61681 := by
  have h1 := recs_len_le tk
  have h2 := dk_len k
  omega
theorem lst_pos {es : List En} (hz : es ≠ []) (h : ∀ e ∈ es, e.ok) : 0 < (lst es).v := by
  have h1 := lst_at hz
  have := (h _ (List.mem_of_getElem? h1)).1
  omega
theorem cut_take {tk : List En} {K wh : Nat} (h : pre tk wh ≤ K) : ((recs tk).take K).take (pre tk wh) = recs (tk.take wh) := by
  rw [List.take_take, Nat.min_eq_left h]
  have e1 : recs tk = recs (tk.take wh) ++ recs (tk.drop wh) := by rw [← recs_add, List.take_append_drop]
  conv => lhs; rw [e1]
  exact take_app _ _ rfl
theorem shift_ok (k : Nat) : ∃ M : Int, (k : Int) % 62 = M ∧ 0 ≤ M ∧ M ≤ 64 := ⟨_, rfl, by omega, by omega⟩
set_option maxRecDepth 100000 in
set_option maxHeartbeats 8000000 in
theorem power_law (room : Int) (ns : List En) (sy kp' : Int) (pa : Option Addr) (pc : Nat) (w : World) (hI : Rw 2 En.arr w pa ns) (hs : ns.length ≤ 5864062014634) : Calls Try.prog 10 #[.int .i64 room, .slice pa ns.length pc, .int .i64 sy, .int .i64 kp'] w fun r w' => r = .returned (.bool true) ∧ Below w.heap.size w w' := by
  obtain ⟨n, hn⟩ : ∃ n, n = ns.length := ⟨_, rfl⟩
  have HI := hide' hI
  have HS : Hid (n ≤ 5864062014634) := hide' (by rw [hn]; exact hs)
  have HN := hide' hn
  rw [← hn]
  have C1 := hide' (alive_any w)
  obtain ⟨R, hR⟩ : ∃ R, R = pk room 1048577 := ⟨_, rfl⟩
  have hRl : R < 1048577 := by rw [hR]; exact pk_lt _ (by decide)
  have C2 : Hid (∀ W, Calls Try.prog 23 #[.int .i64 room, .int .i64 1048577] W fun r w' => r = .returned (.int .i64 (R : Nat)) ∧ w' = W) := hide' (fun W => by rw [hR]; exact pick_any room 1048577 (by decide) (by decide) W)
  have C3 : Hid (∀ W, _) := hide' (fun W => dnew_ok (room := (R : Int)) W (by omega) (by omega))
  clear hn hI hs hR hRl
  go_enter Try.func10, Try.ntmps10
  go_wp2_with fail
  refine C1.out.mono ?_
  rintro x w1 ⟨rfl, b1⟩
  have B1 := hide' b1
  have D2 := hide' (C2.out w1)
  clear b1 C1 C2
  go_wp2_with fail
  refine D2.out.mono ?_
  rintro x w1' ⟨rfl, rfl⟩
  have D3 := hide' (C3.out w1')
  clear D2 C3
  go_wp2_with fail
  refine D3.out.mono ?_
  rintro x w2 ⟨d, rfl, H2⟩
  obtain ⟨ao2, cap2, k2, b2⟩ := H2.out
  have k2' : Dk w.heap.size d (R : Int) [] 0 ao2 cap2 w2 := k2.mono B1.out.size
  have B2 := hide' (B1.out.trans (b2.mono B1.out.size))
  have K2 := hide' k2'
  have D4 := hide' (jopen_ok k2' (es := []) (fun e he => by simp at he) rfl)
  clear D3 H2 k2 k2' b2 B1
  go_wp2_with fail
  refine D4.out.mono ?_
  rintro x w3 ⟨b, af, cf, rfl, hb3, j3, e3, b3⟩
  have P3 : Hid (Po w b d (R : Int) [] 0 none 0 w3) := hide' ⟨⟨ao2, cap2, K2.out.below b3⟩, ⟨_, j3⟩, own_nil 2 24 En.arr _ _, fun e he => by simp at he, Nat.le_refl _, Nat.le_trans B2.out.size hb3, B2.out.trans (b3.mono B2.out.size)⟩
  rw [show ([] : List En).length = 0 from rfl]
  clear D4 hb3 j3 e3 b3 K2 B2
  go_wp2_with fail
  go_loopw [15, 16, 17] (fun v u i wx => ∃ (k : Nat) (tk : List En) (sf : Nat) (a : Option Addr) (c : Nat), v = .slice a tk.length c ∧ u = .int .i64 (sf : Int) ∧ i = .int .i64 (k : Int) ∧ k ≤ n ∧ Po w b d (R : Int) tk sf a c wx) (fun _ _ i _ => n - (intOf i).toNat)
  case atStart => exact ⟨0, [], 0, none, 0, rfl, rfl, rfl, Nat.zero_le _, P3.out⟩
  case round =>
    obtain ⟨k, tk, sf, a, c, rfl, rfl, rfl, hk, hP⟩ := hrel
    have HP := hide' hP
    clear hP P3
    by_cases hlt : k < n
    · have hlt' : (k : Int) < (n : Int) := by omega
      obtain ⟨x, hx⟩ : ∃ x, ns[k]? = some x := ⟨_, List.getElem?_eq_getElem (by rw [← HN.out]; exact hlt)⟩
      rcases HI.out.below HP.out.bel with q | ⟨pb, po, rfl, hpb, hpc⟩
      · rw [q] at hx; simp at hx
      obtain ⟨y0, y1⟩ := e_cells hpc hx
      have ek := hide' (wsucN k (by have := HS.out; omega))
      have Hms := hide' (msr' hlt _ rfl)
      have Hlt := hide' hlt
      have D1 := hide' (fit_any x wr)
      obtain ⟨X, hX⟩ : ∃ X, X = ft x := ⟨_, rfl⟩
      have okX : Hid X.ok := hide' (by rw [hX]; exact ft_ok x)
      rw [← hX] at D1
      obtain ⟨xv, hxv⟩ : ∃ v, v = x.v := ⟨_, rfl⟩
      obtain ⟨xT, hxT⟩ : ∃ v, v = sb x.t := ⟨_, rfl⟩
      obtain ⟨fv, hfv⟩ : ∃ v, v = X.v := ⟨_, rfl⟩
      obtain ⟨fT, hfT⟩ : ∃ v, v = sb X.t := ⟨_, rfl⟩
      have HV := hide' (And.intro hfv hfT)
      rw [← hxv] at y0 D1
      rw [← hxT] at y1 D1
      rw [← hfv, ← hfT] at D1
      obtain ⟨M, m0, m1, m2⟩ := shift_ok k
      obtain ⟨S, hS⟩ : ∃ S : Int, sy / 2 ^ M.toNat = S := ⟨_, rfl⟩
      clear hk hlt hx hpb hpc hxv hxT hfv hfT hX
      go_wp2_with fail
      refine D1.out.mono ?_
      rintro e w2 ⟨rfl, b2⟩
      have K2 : Hid (Po w b d (R : Int) tk sf a c (w2.alloc (.cells #[.int .i64 fv, .string fT] 24)) ∧ (w2.alloc (.cells #[.int .i64 fv, .string fT] 24)).heap[w2.heap.size]? = some (.cells #[.int .i64 fv, .string fT] 24)) := hide' ⟨(HP.out.to b2).to (below_al _ _), heap_alloc_new _ _⟩
      clear b2 D1 HP y0 y1
      by_cases hfit : ((rcd X).length : Int) ≤ (R : Int) - (recs tk).length
      · have D3 := hide' (K2.out.1.app X okX.out hfit)
        rw [← HV.out.1, ← HV.out.2] at D3
        go_wp2_with fail
        refine D3.out.mono ?_
        rintro e w3 ⟨rfl, k3, j3, e3, b3, S3, t3, s3⟩
        have x3 : w3.heap[w2.heap.size]? = some (.cells #[.int .i64 fv, .string fT] 24) := (t3.block _ (lt_of_heap K2.out.2) (fun hj => by
          obtain ⟨cs, t, h1, h2⟩ := s3 _ hj
          exact cells_ne K2.out.2 h1 (fun q => h2 q.symm) rfl)).trans K2.out.2
        have c0 := Lib.cell_of_heap x3 0
        have c1 := Lib.cell_of_heap x3 1
        have K3 := hide' (And.intro k3 (And.intro j3 (And.intro e3 b3)))
        have HO := hide' (And.intro K2.out.1.ok (And.intro K2.out.1.sf K2.out.1.hb))
        clear D3 k3 j3 e3 b3 t3 s3 x3 K2
        go_wp2_with (at_builtin; refine stay_app _ _ rfl ?_)
        unfold Stay
        rw [HV.out.1, HV.out.2]
        have hfew : (tk.length + 1) * 24 ≤ 140737488355328 := by
          obtain ⟨_, _, k3⟩ := K3.out.1
          have := tk_few k3
          rw [List.length_append] at this
          simp only [List.length_cons, List.length_nil] at this
          omega
        refine wpList_more (arr := En.arr) ha_e Try.underlying29 info24 rfl (by omega) w3 rfl _ _ rfl (ro := a) (rc := c) (ss := tk) K3.out.2.2.1 (by unfold maxLen; omega) hfew K3.out.2.2.2.size X (one_e _) 1 (by rfl) (by rfl) ?_
        intro g4 c4 w4 o4 t4 p4
        have P4 : Hid (Po w b d (R : Int) (tk ++ [X]) sf (some ⟨g4, 0, none⟩) c4 w4) := hide' (by
          obtain ⟨ao, cap, k3⟩ := K3.out.1
          exact ⟨⟨ao, cap, by rw [pre_add HO.out.2.1]; exact dk_es k3 K3.out.2.2.1 t4⟩, ⟨_, jn_es K3.out.2.1 K3.out.2.2.1 t4⟩, o4, fun q hq => by
            rcases List.mem_append.1 hq with hq | hq
            · exact HO.out.1 q hq
            · rw [List.mem_singleton.1 hq]; exact okX.out, by rw [List.length_append]; have := HO.out.2.1; omega, HO.out.2.2, K3.out.2.2.2.trans (K3.out.2.2.1.keep t4 K3.out.2.2.2.size)⟩)
        rw [← HV.out.1, ← HV.out.2]
        have hll : tk.length + 1 = (tk ++ [X]).length := by rw [List.length_append]; rfl
        rw [hll]
        obtain ⟨tk', htk⟩ : ∃ t, t = tk ++ [X] := ⟨_, rfl⟩
        rw [← htk] at P4 ⊢
        clear o4 t4 p4 K3 HO hfew c0 c1 hll htk
        by_cases hsy : S.tmod 2 = 0
        · go_wp2
          refine ⟨⟨k + 1, tk', sf, some ⟨g4, 0, none⟩, c4, rfl, rfl, by first | rfl | rw [ek.out], Hlt.out, P4.out⟩, by first | exact Hms.out | (rw [ek.out]; exact Hms.out)⟩
        · have D5 := hide' P4.out.syn
          go_wp2_with fail
          refine D5.out.mono ?_
          rintro e w5 ⟨rfl, p5⟩
          have P5 := hide' p5
          clear p5 D5 P4
          go_wp2
          refine ⟨⟨k + 1, tk', tk'.length, some ⟨g4, 0, none⟩, c4, rfl, rfl, by first | rfl | rw [ek.out], Hlt.out, P5.out⟩, by first | exact Hms.out | (rw [ek.out]; exact Hms.out)⟩
      · have D3 := hide' (K2.out.1.full X okX.out (by omega))
        rw [← HV.out.1, ← HV.out.2] at D3
        clear hfit
        go_wp2_with fail
        refine D3.out.mono ?_
        rintro e w3 ⟨rfl, p3⟩
        have P4 := hide' p3
        clear p3 D3 K2
        by_cases hsy : S.tmod 2 = 0
        · go_wp2
          refine ⟨⟨k + 1, tk, sf, a, c, rfl, rfl, by first | rfl | rw [ek.out], Hlt.out, P4.out⟩, by first | exact Hms.out | (rw [ek.out]; exact Hms.out)⟩
        · have D5 := hide' P4.out.syn
          go_wp2_with fail
          refine D5.out.mono ?_
          rintro e w5 ⟨rfl, p5⟩
          have P5 := hide' p5
          clear p5 D5 P4
          go_wp2
          refine ⟨⟨k + 1, tk, tk.length, a, c, rfl, rfl, by first | rfl | rw [ek.out], Hlt.out, P5.out⟩, by first | exact Hms.out | (rw [ek.out]; exact Hms.out)⟩
    · have hlt' : ¬ ((k : Int) < (n : Int)) := by omega
      obtain ⟨ao, cap, kd⟩ := HP.out.dk
      have hfew := tk_few kd
      have hlen := dk_len kd
      have hsl := kd.hs
      obtain ⟨K0, hK0⟩ : ∃ K, K = kp (pre tk sf) (recs tk).length kp' := ⟨_, rfl⟩
      have hK1 : pre tk sf ≤ K0 ∧ K0 ≤ (recs tk).length := by rw [hK0]; unfold kp; exact ⟨by omega, by omega⟩
      have D1 := hide' (cut_any kd kp')
      rw [← hK0] at D1
      obtain ⟨L, hL⟩ : ∃ L, L = (recs tk).take K0 := ⟨_, rfl⟩
      have hLl : L.length = K0 := by rw [hL, List.length_take]; omega
      rw [← hL] at D1
      have D2 : Hid (∀ W, _) := hide' (fun W => read_any L (by rw [hLl]; omega) W)
      have zL := sb_size L
      rw [hLl] at zL
      obtain ⟨TL, hTL⟩ : ∃ T, T = sb L := ⟨_, rfl⟩
      rw [← hTL] at D1 D2 zL
      have HK := hide' (And.intro hL (And.intro hTL (And.intro hK1 (And.intro hlen hfew))))
      obtain ⟨N, hN⟩ : ∃ N, N = tk.length := ⟨_, rfl⟩
      have HNt := hide' hN
      rw [← hN]
      clear hk hlt hfew hlen hsl hK0 hK1 hL hLl hTL kd hN
      go_wp2_with fail
      refine D1.out.mono ?_
      rintro e w2 ⟨rfl, b2⟩
      have P2 := hide' (HP.out.to b2)
      have D3 := hide' (D2.out w2)
      clear b2 D1 D2 HP
      go_wp2_with fail
      refine D3.out.mono ?_
      rintro e w3 ⟨es, ag, cg, rfl, hr, ho, hb⟩
      have P3' := hide' (P2.out.to hb)
      obtain ⟨wh, hw1, hes, hw2⟩ := read_some P2.out.ok (by rw [← HK.out.1]; exact hr)
      have hsw : sf ≤ wh := by
        rcases Nat.lt_or_ge wh sf with q | q
        · have := hw2.no sf q P2.out.sf
          have := HK.out.2.2.1.1
          omega
        · exact q
      obtain ⟨F, hF⟩ : ∃ F, F = tk.take wh := ⟨_, rfl⟩
      rw [← hF] at hes
      subst hes
      have hFl : es.length = wh := by rw [hF, List.length_take]; omega
      have hFo : ∀ e ∈ es, e.ok := fun e he => P2.out.ok e (by rw [hF] at he; exact List.mem_of_mem_take he)
      have hpw : (recs es).length = pre tk wh := by rw [hF]; rfl
      obtain ⟨pw, hpw2⟩ : ∃ p, p = pre tk wh := ⟨_, rfl⟩
      have hpK : pw ≤ K0 := by rw [hpw2]; exact hw2.at'
      have hRw := P3'.out.es.rw' ha_e
      have hS1 := Rw.take hRw wh
      rw [← hF] at hS1
      have S1 := hide' (same_any cg c (ho.rw' ha_e) hS1 (by have := HK.out.2.2.2.2; omega))
      have K3 := hide' (And.intro ho hFo)
      have x1 : TL.extract 0 pw = sb (recs es) := by
        rw [HK.out.2.1, sb_cut, List.drop_zero, Nat.sub_zero, HK.out.1, hpw2, cut_take hw2.at', hF]
      have D4 : Hid (∀ W, _) := hide' (fun W => open_ok (room := 1048576) (recs es) W (by rw [hpw, ← hpw2]; have := HK.out.2.2.1.2; have := HK.out.2.2.2.1; omega) (by decide))
      obtain ⟨TE, hTE⟩ : ∃ T, T = sb (recs es) := ⟨_, rfl⟩
      rw [← hTE] at x1 D4
      rw [hFl] at S1
      rw [hpw, hFl, ← hpw2]
      have hcap : wh ≤ c := by
        obtain ⟨_, _, hv, hLc, _, _⟩ := P3'.out.es.form
        cases hv
        omega
      have g1 : ¬ ((wh : Int) < (sf : Int)) := by omega
      have g2 : ¬ ((N : Int) < (wh : Int)) := by rw [HNt.out]; omega
      have g3 : ¬ ((K0 : Int) < (pw : Int)) := by omega
      have g4 : (wh : Int) ≤ (c : Int) := by omega
      have g5 : (0 : Int) ≤ (wh : Int) := by omega
      have g6 : (pw : Int) ≤ (K0 : Int) := by omega
      have g7 : (0 : Int) ≤ (pw : Int) := by omega
      have HF := hide' (And.intro hFl (And.intro hFo HK.out.2.2.2.2))
      have B3 := hide' P3'.out.bel
      have hNw : wh ≤ tk.length := hw1
      have HNw := hide' hNw
      clear hr ho hb hw1 hw2 hsw hF hFl hFo hpw hpw2 hpK hRw hS1 hTE hcap D3 P2 P3' hNw
      go_wp2_with fail
      refine S1.out.mono ?_
      rintro e w4 ⟨rfl, b4⟩
      have B4 := hide' (B3.out.trans (b4.mono B3.out.size))
      have K4 := hide' (K3.out.1.below b4)
      have D5 := hide' (D4.out w4)
      clear b4 S1 B3 D4
      go_wp2_with fail
      refine D5.out.mono ?_
      rintro e w5 ⟨d', rfl, H5⟩
      obtain ⟨ao5, cap5, k5, b5⟩ := H5.out
      have D6 := hide' (jopen_ok k5 (es := es) HF.out.2.1 rfl)
      have B5 := hide' (B4.out.trans (b5.mono B4.out.size))
      have K5 := hide' (K4.out.below b5)
      clear D5 H5 k5 b5 B4 K4
      go_wp2_with fail
      refine D6.out.mono ?_
      rintro e w6 ⟨b6, af, cf, rfl, hb6, j6, e6, b6'⟩
      have S2 := hide' (same_any cf cg (e6.rw' ha_e) ((K5.out.below b6').rw' ha_e) (by rw [HF.out.1]; have := HF.out.2.2; have := HNw.out; omega))
      have B6 := hide' (B5.out.trans (b6'.mono B5.out.size))
      have K6 := hide' (And.intro (K5.out.below b6') j6)
      rw [HF.out.1] at S2
      rw [HF.out.1]
      clear D6 hb6 j6 e6 b6' B5 K5
      go_wp2_with fail
      refine S2.out.mono ?_
      rintro e w7 ⟨rfl, b7⟩
      have B7 := hide' (B6.out.trans (b7.mono B6.out.size))
      have K7 := hide' (K6.out.1.below b7)
      have D8 := hide' (last_any (K6.out.2.below b7 (Nat.le_refl _)))
      clear S2 b7 B6 K6
      obtain ⟨lv, hlv⟩ : ∃ v, v = (lst es).v := ⟨_, rfl⟩
      obtain ⟨lT, hlT⟩ : ∃ v, v = sb (lst es).t := ⟨_, rfl⟩
      rw [← hlv, ← hlT] at D8
      by_cases hz : es = []
      · have hw0 : wh = 0 := by rw [← HF.out.1, hz]; rfl
        have hl0 : lv = 0 := by rw [hlv, hz]; rfl
        have hl0' : decide (0 < lv) = false := by rw [hl0]; rfl
        rw [hl0'] at D8
        clear hl0' hl0 hlv hlT hz
        subst hw0
        go_wp2_with fail
        refine D8.out.mono ?_
        rintro e w8 ⟨rfl, b8⟩
        have B8 := hide' (B7.out.trans (b8.mono B7.out.size) |>.alloc (Nat.le_trans B7.out.size b8.size) (.cells #[.int .i64 lv, .string lT] 24))
        clear D8 b8 B7
        go_wp2_with fail
        go_quiet (fail)
        go_wp2
        go_ret
        exact ⟨rfl, bdn B8.out _⟩
      · have hpos := lst_pos hz HF.out.2.1
        rw [← hlv] at hpos
        have hat := lst_at hz
        obtain ⟨g, hag, c0, c1⟩ := es_cell K7.out hat
        have hwp : 0 < wh := by rw [← HF.out.1]; exact List.length_pos_iff.2 hz
        rw [HF.out.1] at c0 c1
        rw [← hlv] at c0
        rw [← hlT] at c1
        obtain ⟨n1, hn1⟩ : ∃ n, n = wh - 1 := ⟨_, rfl⟩
        rw [← hn1] at c0 c1
        have ws : wrap64 ((wh : Int) - 1) = (n1 : Int) := by rw [hn1]; have := HNw.out; have := HF.out.2.2; unfold wrap64; omega
        have gn : (n1 : Int) < (wh : Int) := by omega
        have gw : (0 : Int) < (wh : Int) := by omega
        have hglt : g < w7.heap.size := World.block_lt_of_cell? w7 _ c0
        rw [decide_eq_true hpos] at D8
        rw [hag]
        clear hat hwp hn1 hz hpos hlv hlT hag
        go_wp2_with fail
        refine D8.out.mono ?_
        rintro e w8 ⟨rfl, b8⟩
        have b9 : Below w7.heap.size w7 (w8.alloc (.cells #[.int .i64 lv, .string lT] 24)) := b8.alloc b8.size _
        have c0' := (b9.cell (p := ⟨g, n1 * 2, none⟩) hglt).trans c0
        have c1' := (b9.cell (p := ⟨g, n1 * 2 + 1, none⟩) hglt).trans c1
        have B8 := hide' (B7.out.trans (b9.mono B7.out.size))
        have e0 : (w8.alloc (.cells #[.int .i64 lv, .string lT] 24)).cell? ⟨w8.heap.size, 0, none⟩ = some (.int .i64 lv) := Lib.cell_of_heap (heap_alloc_new w8 _) 0
        have e1 : (w8.alloc (.cells #[.int .i64 lv, .string lT] 24)).cell? ⟨w8.heap.size, 1, none⟩ = some (.string lT) := Lib.cell_of_heap (heap_alloc_new w8 _) 1
        have gw' : 0 < wh := by omega
        have gd : decide (0 < wh) = true := decide_eq_true gw'
        have gd' : decide ((0 : Int) < (wh : Int)) = true := decide_eq_true gw
        have gn' : n1 < wh := by omega
        have gn0 : (0 : Int) ≤ (n1 : Int) := by omega
        clear D8 b8 b9 B7 c0 c1 hglt
        go_wp2_with fail
        go_quiet (fail)
        go_wp2
        go_ret
        exact ⟨rfl, bdn B8.out _⟩
end J
end Go.Proofs.Ytihdagehenmolaa
