import Derived.Test.YtdhdcpppilacmaaExP
set_option linter.unusedVariables false
set_option linter.unusedSimpArgs false
namespace Go.Proofs.Ytdhdcpppilacmaa
open Go.RowKit
namespace K
open M
/-- the list of pairs at some world -/
def Ls (w : World) (n : Nat) (v : Value) (wx : World) : Prop := ∃ (xs : List PP) (ro : Option Addr) (rc : Nat), v = .slice ro xs.length rc ∧ xs.length ≤ n ∧ Al w xs ro rc wx
set_option maxRecDepth 100000 in
set_option maxHeartbeats 8000000 in
theorem exact_any (sa : Option Addr) (sc : Nat) (sts : List S3) (pa0 : Option Addr) (pc : Nat) (os : List O4) (w : World) (hS : Rw 3 S3.arr w sa sts) (hI : Rw 4 O4.arr w pa0 os) (hP : ∀ q ∈ os, I64 q.d ∧ I64 q.n) (hs0 : sts.length ≤ 4398046511104) (hs : os.length ≤ 17592186043904) :
    Calls Try.prog 3 #[.slice sa sts.length sc, .slice pa0 os.length pc] w fun e w' => e = .returned (.bool true) ∧ Below w.heap.size w w' := by
  have HI := hide' (fun w' (b : Below w.heap.size w w') => hI.below b)
  have HSt := hide' (fun w' (b : Below w.heap.size w w') => hS.below b)
  have HL := hide' (And.intro hs0 (And.intro hs hP))
  have HF := hide' (fixed_any w)
  clear hI hS hP hs hs0
  go_enter Try.func3, Try.ntmps3
  go_wp2_with fail
  refine HF.out.mono ?_
  rintro e w1 ⟨rfl, b1⟩
  have A0 := hide' (Al.nil w b1)
  clear b1 HF
  go_wp2_with fail
  go_loopw [6, 7] (fun v i wx => ∃ k : Nat, i = .int .i64 (k : Int) ∧ k ≤ sts.length ∧ Ls w k v wx) (fun _ i _ => sts.length - (intOf i).toNat)
  case atStart => exact ⟨0, rfl, Nat.zero_le _, [], none, 0, rfl, Nat.le_refl _, A0.out⟩
  case round =>
    obtain ⟨k, rfl, hk, xs, ro, rc, rfl, hxl, hA⟩ := hrel
    clear A0
    by_cases hlt : k < sts.length
    · have hlt' : (k : Int) < (sts.length : Int) := by omega
      obtain ⟨x, hx⟩ : ∃ x, sts[k]? = some x := ⟨_, List.getElem?_eq_getElem hlt⟩
      rcases HSt.out _ hA.bel with q | ⟨pb, po, rfl, hpb, hpc⟩
      · rw [q] at hlt; simp at hlt
      obtain ⟨y0, y1, y2⟩ := S3.cells (hpc k x hx)
      have hL := HL.out.1
      have ek := hide' (wsucN k (by omega))
      have Hms := hide' (msr' hlt _ rfl)
      have Hlt := hide' hlt
      have HA := hide' hA
      have Hxl := hide' (show xs.length ≤ 4398046511104 ∧ xs.length ≤ k by omega)
      have CM := hide' (made_any x.r x.f x.t wr)
      obtain ⟨XT, hXT⟩ : ∃ A, A = sb x.t := ⟨_, rfl⟩
      rw [← hXT] at y2 CM
      clear hA hk hlt hx hpb hpc hL hXT hxl
      go_wp2_with fail
      refine CM.out.mono ?_
      rintro e w2 ⟨pc', pr', rfl, H2⟩
      have H2' := hide' H2.out
      clear CM H2
      rcases H2'.out.2 with ⟨rfl, rfl⟩ | ⟨y, rfl, rfl, q2⟩
      · have K2 : Hid (Al w xs ro rc (w2.alloc (.cells #[.pointer none, .pointer none] 29))) := hide' ((HA.out.below H2'.out.1).below ((Below.refl _ _).alloc (Nat.le_refl _) _))
        clear H2'
        go_wp2
        exact ⟨⟨k + 1, by first | rfl | (rw [ek.out]), Hlt.out, xs, ro, rc, rfl, by have := Hxl.out.2; omega, K2.out⟩, by first | exact Hms.out | (rw [ek.out]; exact Hms.out)⟩
      · obtain ⟨w3, hw3⟩ : ∃ w3, w3 = w2.alloc (.cells #[.pointer (some ⟨y.p, 0, none⟩), .pointer (some ⟨y.r, 0, none⟩)] 29) := ⟨_, rfl⟩
        have b3 : Below w2.heap.size w2 w3 := by rw [hw3]; exact (Below.refl _ _).alloc (Nat.le_refl _) _
        have K3 : Hid (Below wr.heap.size wr w3 ∧ Pr wr.heap.size y w3) := hide' ⟨H2'.out.1.trans (b3.mono H2'.out.1.size), q2.below b3⟩
        have Hw3 := hide' hw3
        have hc0 : w3.cell? ⟨w2.heap.size, 0, none⟩ = some (.pointer (some ⟨y.p, 0, none⟩)) := by rw [hw3, Lib.cell_of_heap (heap_alloc_new _ _)]; rfl
        have hc1 : w3.cell? ⟨w2.heap.size, 1, none⟩ = some (.pointer (some ⟨y.r, 0, none⟩)) := by rw [hw3, Lib.cell_of_heap (heap_alloc_new _ _)]; rfl
        have R3 := hide' ((HA.out.below K3.out.1).row)
        have S3' := hide' (Nat.le_trans HA.out.bel.size K3.out.1.size)
        rw [hw3] at R3 S3'
        clear H2' q2 b3 hw3 hc0 hc1
        go_wp2_with (at_builtin; go_loud (refine wpList_more (arr := pa) ha_p Try.underlying25 info29 rfl (by omega) (w2.alloc (.cells #[.pointer (some ⟨y.p, 0, none⟩), .pointer (some ⟨y.r, 0, none⟩)] 29)) rfl _ _ rfl (ro := ro) (rc := rc) (ss := xs) R3.out (by have := Hxl.out.1; unfold maxLen; omega) (by have := Hxl.out.1; omega) S3'.out y (one_p _) 1 rfl (by rw [show (w2.alloc (.cells #[.pointer (some ⟨y.p, 0, none⟩), .pointer (some ⟨y.r, 0, none⟩)] 29)).heap.size = w2.heap.size + 1 by simp]; rfl) ?_); intro gg cc w4 o4 t4 p4; have O4' := hide' (And.intro o4 t4); clear o4 t4 p4)
        have K4 : Hid (Al w (xs ++ [y]) (some ⟨gg, 0, none⟩) cc w4) := hide' (HA.out.add K3.out.1 K3.out.2 O4'.out.1 (by rw [Hw3.out]; exact O4'.out.2))
        clear O4' K3 R3 S3' HA Hw3
        try go_wp2
        exact ⟨⟨k + 1, by first | rfl | (rw [ek.out]), Hlt.out, xs ++ [y], some ⟨gg, 0, none⟩, cc, by rw [List.length_append]; rfl, by rw [List.length_append]; have := Hxl.out.2; simp; omega, K4.out⟩, by first | exact Hms.out | (rw [ek.out]; exact Hms.out)⟩
    · obtain rfl : k = sts.length := by omega
      obtain ⟨n0, hn0⟩ : ∃ n, n = xs.length := ⟨_, rfl⟩
      have A1 := hide' (And.intro (show n0 ≤ 4398046511104 by have := HL.out.1; omega) (And.intro hn0.symm hA))
      rw [← hn0]
      clear hA hk hlt hxl hn0
      by_cases h0 : n0 = 0
      · subst h0
        have HB1 := hide' A1.out.2.2.bel
        clear A1
        go_wp2_with fail
        go_loopw [5, 10] (fun ok i wx => ok = .bool true ∧ i = .int .i64 0 ∧ Below w.heap.size w wx) (fun _ _ _ => 0)
        case atStart => exact ⟨rfl, rfl, HB1.out⟩
        case round =>
          obtain ⟨rfl, rfl, hb2⟩ := hrel
          have HB2 := hide' hb2
          clear hb2 HB1
          by_cases hos : (0 : Int) < (os.length : Int)
          · skip
            go_wp2_with fail
            go_loopw [5, 11] (fun ok i wx => ok = .bool true ∧ i = .int .i64 0 ∧ Below w.heap.size w wx) (fun _ _ _ => 0)
            case atStart => exact ⟨rfl, rfl, HB2.out⟩
            case round =>
              obtain ⟨rfl, rfl, hb3⟩ := hrel
              have HB3 := hide' hb3
              clear hb3
              go_wp2
              go_ret
              exact ⟨rfl, HB3.out⟩

          · skip
            go_wp2_with fail
            go_loopw [5, 11] (fun ok i wx => ok = .bool true ∧ i = .int .i64 0 ∧ Below w.heap.size w wx) (fun _ _ _ => 0)
            case atStart => exact ⟨rfl, rfl, HB2.out⟩
            case round =>
              obtain ⟨rfl, rfl, hb3⟩ := hrel
              have HB3 := hide' hb3
              clear hb3
              go_wp2
              go_ret
              exact ⟨rfl, HB3.out⟩

      · have h0' : (0 : Int) < (n0 : Int) := by omega
        go_wp2_with fail
        go_loopw [5, 10] (fun ok i wx => ∃ (k2 : Nat) (xs : List PP), ok = .bool true ∧ i = .int .i64 (k2 : Int) ∧ k2 ≤ os.length ∧ xs.length = n0 ∧ Al w xs ro rc wx) (fun _ i _ => os.length - (intOf i).toNat)
        case atStart => exact ⟨0, xs, rfl, rfl, Nat.zero_le _, A1.out.2.1, A1.out.2.2⟩
        case round =>
          obtain ⟨k2, ys, rfl, rfl, hk, hyl, hA⟩ := hrel
          by_cases hlt : k2 < os.length
          · have hlt' : (k2 : Int) < (os.length : Int) := by omega
            obtain ⟨x, hx⟩ : ∃ x, os[k2]? = some x := ⟨_, List.getElem?_eq_getElem hlt⟩
            have hxn := (HL.out.2.2 x (List.mem_of_getElem? hx)).2
            rcases HI.out _ hA.bel with q | ⟨pb, po, rfl, hpb, hpc⟩
            · rw [q] at hlt; simp at hlt
            obtain ⟨y0, y1, y2, y3⟩ := O4.cells (hpc k2 x hx)
            have hL := HL.out.2.1
            have ek := hide' (wsucN k2 (by omega))
            have Hms := hide' (msr' hlt _ rfl)
            have Hlt := hide' hlt
            have HA := hide' hA
            have Hyl := hide' hyl
            obtain ⟨m, hm⟩ : ∃ m, pk x.d n0 = m := ⟨_, rfl⟩
            have hm0 := pk_lt x.d (m := n0) (by omega)
            rw [hm] at hm0
            have hmi : (m : Int) < (n0 : Int) := by omega
            obtain ⟨z, hz⟩ : ∃ z, ys[m]? = some z := ⟨_, List.getElem?_eq_getElem (by rw [hyl]; exact hm0)⟩
            have hroe := hA.cells hz
            obtain ⟨g, rfl, r0, r1⟩ := hroe
            have CAt := hide' (fun V => at_any x.d n0 V (by omega) (by have := A1.out.1; omega))
            rw [hm] at CAt
            have COne : Hid (Calls Try.prog 8 #[.agg #[.pointer (some ⟨z.p, 0, none⟩), .pointer (some ⟨z.r, 0, none⟩)], .agg #[.int .i64 x.k, .int .i64 x.d, .string (sb x.t), .int .i64 x.n]] wr.drew fun e w' => e = .returned (.bool true) ∧ Hid (PT w.heap.size z wr.drew w')) := hide' (one_any ((hA.below (below_drewN wr 1)).ev m z hz) x (hA.below (below_drewN wr 1)).bel.size hxn)
            obtain ⟨XT, hXT⟩ : ∃ A, A = sb x.t := ⟨_, rfl⟩
            rw [← hXT] at y2 COne
            have lpb : pb < wr.heap.size := hpb
            have lg : g < wr.heap.size := World.block_lt_of_cell? wr _ r0
            have STEP : Hid (∀ w3, PT w.heap.size z wr.drew w3 → (∃ y : PP, y.p = z.p ∧ y.r = z.r ∧ Al w (ys.set m y) (some ⟨g, 0, none⟩) rc w3) ∧ (w3.cell? ⟨pb, po + k2 * 4, none⟩ = some (.int .i64 x.k) ∧ w3.cell? ⟨pb, po + k2 * 4 + 1, none⟩ = some (.int .i64 x.d) ∧ w3.cell? ⟨pb, po + k2 * 4 + 2, none⟩ = some (.string XT) ∧ w3.cell? ⟨pb, po + k2 * 4 + 3, none⟩ = some (.int .i64 x.n)) ∧ (w3.cell? ⟨g, m * 2, none⟩ = some (.pointer (some ⟨z.p, 0, none⟩)) ∧ w3.cell? ⟨g, m * 2 + 1, none⟩ = some (.pointer (some ⟨z.r, 0, none⟩)))) := hide' (fun w3 h => by
              obtain ⟨y, e1, e2, a3⟩ := (HA.out.below (below_drewN wr 1)).step hz h
              refine ⟨⟨y, e1, e2, a3⟩, ?_, ?_⟩
              · rcases HI.out _ a3.bel with q | ⟨pb', po', e, _, hpc'⟩
                · rw [q] at hx; simp at hx
                · cases e
                  have := O4.cells (hpc' k2 x hx)
                  rw [← hXT] at this
                  exact this
              · have hy : (ys.set m y)[m]? = some y := List.getElem?_set_self (by rw [Hyl.out]; exact hm0)
                obtain ⟨g', e, c0, c1⟩ := a3.cells hy
                cases e
                rw [e1] at c0
                rw [e2] at c1
                exact ⟨c0, c1⟩)
            have HM0 := hide' (And.intro hyl hm0)
            clear hA hk hlt hpb hpc hL hyl hm hm0 hxn hXT hx
            go_wp2_with fail
            go_region_held3 (fun w' => w'.cell? ⟨pb, po + k2 * 4, none⟩ = some (.int .i64 x.k) ∧ w'.cell? ⟨pb, po + k2 * 4 + 1, none⟩ = some (.int .i64 x.d) ∧ w'.cell? ⟨pb, po + k2 * 4 + 2, none⟩ = some (.string XT) ∧ w'.cell? ⟨pb, po + k2 * 4 + 3, none⟩ = some (.int .i64 x.n) ∧ w'.cell? ⟨g, m * 2, none⟩ = some (.pointer (some ⟨z.p, 0, none⟩)) ∧ w'.cell? ⟨g, m * 2 + 1, none⟩ = some (.pointer (some ⟨z.r, 0, none⟩))) (first | go_keep | exact ⟨k0, k1, k3, k4, q0, q1⟩) ((first | (go_at_call 9; refine (CAt.out _).mono ?_; rintro e w2 ⟨rfl, rfl⟩) | (go_at_call 8; refine COne.out.mono ?_; rintro e w3 ⟨rfl, H3⟩; obtain ⟨A3, ⟨k0, k1, k3, k4⟩, q0, q1⟩ := STEP.out _ H3.out)))
            obtain ⟨y, e1, e2, a3⟩ := A3
            have K3 := hide' a3
            clear a3 e1 e2 k0 k1 k3 k4 q0 q1 H3 COne CAt STEP HA r0 r1 y0 y1 y2 y3
            go_wp2
            exact ⟨⟨k2 + 1, ys.set m y, rfl, by first | rfl | (rw [ek.out]), Hlt.out, by rw [List.length_set]; exact Hyl.out, K3.out⟩, by first | exact Hms.out | (rw [ek.out]; exact Hms.out)⟩
          · obtain rfl : k2 = os.length := by omega
            have A2 := hide' (And.intro A1.out.1 (And.intro hyl hA))
            clear hA hk hlt hyl A1
            go_wp2_with fail
            go_loopw [5, 11] (fun ok i wx => ∃ k3 : Nat, ok = .bool true ∧ i = .int .i64 (k3 : Int) ∧ k3 ≤ n0 ∧ Al w ys ro rc wx) (fun _ i _ => n0 - (intOf i).toNat)
            case atStart => exact ⟨0, rfl, rfl, Nat.zero_le _, A2.out.2.2⟩
            case round =>
              obtain ⟨k3, rfl, rfl, hk, hA⟩ := hrel
              by_cases hlt : k3 < n0
              · have hlt' : (k3 : Int) < (n0 : Int) := by omega
                obtain ⟨z, hz⟩ : ∃ z, ys[k3]? = some z := ⟨_, List.getElem?_eq_getElem (by rw [A2.out.2.1]; exact hlt)⟩
                obtain ⟨g, rfl, r0, r1⟩ := hA.cells hz
                have ek := hide' (wsucN k3 (by have := A2.out.1; omega))
                have Hms := hide' (msr' hlt _ rfl)
                have Hlt := hide' hlt
                obtain ⟨wa, hwa⟩ : ∃ wa, wa = wr.alloc (.cells #[.pointer (some ⟨z.p, 0, none⟩), .pointer (some ⟨z.r, 0, none⟩)] 29) := ⟨_, rfl⟩
                have hba : Below wr.heap.size wr wa := by rw [hwa]; exact (Below.refl _ _).alloc (Nat.le_refl _) _
                have HA := hide' (hA.below hba)
                have Q := (hA.below hba).ev k3 z hz
                obtain ⟨xb, hxb⟩ : ∃ xb, xb = wr.heap.size := ⟨_, rfl⟩
                have qb : Bp xb z.p z.r wa := by rw [hwa, hxb]; exact heap_alloc_new _ _
                have p0 := qb.c0
                have p1 := qb.c1
                have lb : xb < wa.heap.size := lt_of_heap qb
                obtain ⟨A, hA1⟩ : ∃ A, A = sb z.l := ⟨_, rfl⟩
                obtain ⟨A0, hA0⟩ : ∃ A, A = sb (z.l.take (kp z.s z.l.length 0)) := ⟨_, rfl⟩
                have C10 : Hid (∀ V, Below wa.heap.size wa V → Calls Try.prog 10 #[.pointer (some ⟨z.p, 0, none⟩)] V fun e w' => e = .returned (.string A) ∧ w' = V) := hide' (fun V b => by rw [hA1]; exact bytes_any (Q.below b).dk)
                have C11 : Hid (∀ V, Below wa.heap.size wa V → Calls Try.prog 11 #[.pointer (some ⟨z.r, 0, none⟩)] V fun e w' => e = .returned (.string A) ∧ Below V.heap.size V w') := hide' (fun V b => by rw [hA1]; exact rbytes_any (Q.below b).rk Q.dk.hs)
                have C12 : Hid (∀ V, Below wa.heap.size wa V → Calls Try.prog 12 #[.pointer (some ⟨z.p, 0, none⟩)] V fun e w' => e = .returned (.int .i64 (z.s : Nat)) ∧ w' = V) := hide' (fun V b => safe_any (Q.below b).dk)
                have C13 : Hid (∀ V, Below wa.heap.size wa V → Calls Try.prog 13 #[.pointer (some ⟨z.r, 0, none⟩)] V fun e w' => e = .returned (.int .i64 (z.s : Nat)) ∧ w' = V) := hide' (fun V b => rsafe_any (Q.below b).rk Q.dk.hs)
                have C14 : Hid (∀ V, Below wa.heap.size wa V → Calls Try.prog 14 #[.pointer (some ⟨z.p, 0, none⟩), .int .i64 0] V fun e w' => e = .returned (.string A0) ∧ Below V.heap.size V w') := hide' (fun V b => by rw [hA0]; exact cut_any (Q.below b).dk 0)
                have C15 : Hid (∀ V, Below wa.heap.size wa V → Calls Try.prog 15 #[.pointer (some ⟨z.r, 0, none⟩), .int .i64 0] V fun e w' => e = .returned (.string A0) ∧ Below V.heap.size V w') := hide' (fun V b => by rw [hA0]; exact rcut_any (Q.below b).rk Q.dk.hs 0 (by omega))
                have Hwa := hide' hwa
                have Hxb := hide' hxb
                generalize z.s = zs at *
                clear hA hk hlt hz hba Q qb hA1 hA0 hwa hxb
                go_wp2_with fail
                rw [← Hxb.out, ← Hwa.out]
                go_region_held3 (fun w' => w'.cell? ⟨xb, 0, none⟩ = some (.pointer (some ⟨z.p, 0, none⟩)) ∧ w'.cell? ⟨xb, 1, none⟩ = some (.pointer (some ⟨z.r, 0, none⟩))) (first | go_keep | exact ⟨m0, m1⟩ | exact ⟨l0, l1⟩ | exact ⟨k0, k1⟩) ((first
                  | (go_at_call 10; refine (C10.out _ ?_).mono ?_; (first | exact bb5 | exact bb4 | exact bb3 | exact (Below.refl _ _).drew); rintro e v1 ⟨rfl, rfl⟩)
                  | (go_at_call 11; refine (C11.out _ ?_).mono ?_; (first | exact bb5 | exact bb4 | exact bb3 | exact (Below.refl _ _).drew); rintro e v3 ⟨rfl, b3⟩; have bb3 : Below wa.heap.size wa v3 := (Below.refl _ _).drew.trans b3; have k0 := (bb3.cell (p := ⟨xb, 0, none⟩) lb).trans p0; have k1 := (bb3.cell (p := ⟨xb, 1, none⟩) lb).trans p1)
                  | (go_at_call 12; refine (C12.out _ ?_).mono ?_; (first | exact bb5 | exact bb4 | exact bb3 | exact (Below.refl _ _).drew); rintro e v2 ⟨rfl, rfl⟩)
                  | (go_at_call 13; refine (C13.out _ ?_).mono ?_; (first | exact bb5 | exact bb4 | exact bb3 | exact (Below.refl _ _).drew); rintro e v2 ⟨rfl, rfl⟩)
                  | (go_at_call 14; refine (C14.out _ ?_).mono ?_; (first | exact bb5 | exact bb4 | exact bb3 | exact (Below.refl _ _).drew); rintro e v4 ⟨rfl, b4⟩; have bb4 : Below wa.heap.size wa v4 := bb3.trans (b4.mono bb3.size); have l0 := (bb4.cell (p := ⟨xb, 0, none⟩) lb).trans p0; have l1 := (bb4.cell (p := ⟨xb, 1, none⟩) lb).trans p1)
                  | (go_at_call 15; refine (C15.out _ ?_).mono ?_; (first | exact bb5 | exact bb4 | exact bb3 | exact (Below.refl _ _).drew); rintro e v5 ⟨rfl, b5⟩; have bb5 : Below wa.heap.size wa v5 := bb4.trans (b5.mono bb4.size); have m0 := (bb5.cell (p := ⟨xb, 0, none⟩) lb).trans p0; have m1 := (bb5.cell (p := ⟨xb, 1, none⟩) lb).trans p1)))
                have K5 := hide' (HA.out.below bb5)
                clear C10 C11 C12 C13 C14 C15 bb5 bb4 bb3 b3 b4 b5 k0 k1 l0 l1 m0 m1 p0 p1 r0 r1 HA Hwa Hxb
                go_wp2
                exact ⟨⟨k3 + 1, rfl, by first | rfl | (rw [ek.out]), Hlt.out, K5.out⟩, by first | exact Hms.out | (rw [ek.out]; exact Hms.out)⟩
              · obtain rfl : k3 = n0 := by omega
                have HB := hide' hA.bel
                clear hA hk hlt
                go_wp2
                go_ret
                exact ⟨rfl, HB.out⟩
end K
end Go.Proofs.Ytdhdcpppilacmaa
