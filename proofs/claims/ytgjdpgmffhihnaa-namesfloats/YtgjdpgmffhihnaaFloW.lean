import Derived.Test.YtgjdpgmffhihnaaFloA
set_option linter.unusedVariables false
set_option linter.unusedSimpArgs false
namespace Go.Proofs.Ytgjdpgmffhihnaa
open Go.RowKit Go.Maps Go.Shelf
namespace F
attribute [local go_sem] run_store_float Oper.semAt_some
/-- a script's step as it lies in memory -/
structure StepAt (w : World) (b o : Nat) (d : Int) (vs : ByteArray) (vf : Nat) (k : Int × Int) (n : Int) (vm : Int) : Prop where
  c0 : w.cell? ⟨b, o, none⟩ = some (.int .i64 d)
  c1 : w.cell? ⟨b, o + 1, none⟩ = some (.string vs)
  c2 : w.cell? ⟨b, o + 2, none⟩ = some (.float .f64 vf)
  c3 : w.cell? ⟨b, o + 3, none⟩ = some (.int .i64 k.1)
  c4 : w.cell? ⟨b, o + 4, none⟩ = some (.int .i64 k.2)
  c5 : w.cell? ⟨b, o + 5, none⟩ = some (.int .i64 n)
  c6 : w.cell? ⟨b, o + 6, none⟩ = some (.int .i64 vm)
  wn : -9223372036854775808 ≤ n ∧ n ≤ 9223372036854775807

theorem of_new (B x bm : Nat) (ao : Option Addr) (cap : Nat) (zs : List Nat) (k : Nat) (w : World) (h : FI B x bm ao cap zs w) (hin : pos k zs = 0) (hf : (zs.length : Int) < (1048576 : Int)) :
    Calls Try.prog 25 #[.pointer (some ⟨x, 0, none⟩), .float .f64 k] w fun e w' => e = .returned (.int .i64 (zs.length + 1 : Nat)) ∧ ∃ g cap', FI B x bm (some ⟨g, 0, none⟩) cap' (zs ++ [k]) w' ∧ Turn (Own x bm ao) w w' ∧ (ao = some ⟨g, 0, none⟩ ∨ w.heap.size ≤ g) := by
  cases hk : feq k k
  · exact of_nan B x bm ao cap zs k w h hin hf hk
  · exact of_num B x bm ao cap zs k w h hin hf hk

set_option maxRecDepth 100000 in
set_option maxHeartbeats 2000000 in
theorem walk1 (a0 : Option Addr) (b off len cap N : Nat) (w : World) (hlc : len ≤ cap) (hcm : cap ≤ maxLen) (hN : N = min len 1000) (ha0 : 0 < N → a0 = some ⟨b, off, none⟩) (hbl : 0 < N → b < w.heap.size)
    (hst : ∀ i, i < N → ∃ d vs vf k n vm, StepAt w b (off + i * 7) d vs vf k n vm) :
    Calls Try.prog 8 #[.slice a0 len cap] w fun e w' => e = .returned (.bool true) ∧ Below w.heap.size w w' := by
  have hN1 : N ≤ 1000 := by omega
  have hfi := fun x => first_any a0 len cap N x hlc hcm hN
  have Hfi := hide' hfi
  have HN := hide' hN
  have Hst := hide' hst
  have Ha0 := hide' ha0
  have Hbl := hide' hbl
  clear hfi hN hst ha0 hbl
  unfold maxLen at hcm
  refine (callsIn_wide (n := 9)).1 ?_
  refine callsIn_of_wp_marks Try.func8 rfl trivial ?_ rfl
  refine wpIn_wide.2 ?_
  simp only [Try.ntmps8, List.size_toArray, List.length_cons, List.length_nil, Nat.reduceAdd, Nat.reduceSub, Array.replicate_succ, Array.replicate_zero, List.push_toArray, List.append_toArray, List.nil_append, List.cons_append]
  go_wp2_with (first | (go_at_call 22; refine (new_any _).mono ?_; rintro e w1 ⟨rfl, hix, hb, hsz1⟩; have hz1 : w1.heap.size = w.heap.size + 1 + 2 := by (simpa using hsz1)) | (go_at_call 23; refine (Hfi.out _).mono ?_; rintro e w2 ⟨rfl, rfl⟩))
  simp only [World.size_alloc] at hix hb
  clear hsz1
  have hz : (w2.alloc (.cells #[.slice none 0 0] 48)).heap[w2.heap.size]? = some (.cells #[.slice none 0 0] 48 (0, 0)) := heap_alloc_new _ _
  rw [hz1] at hz
  have hps : FS w.heap.size none 0 none 0 [] w (w2.alloc (.cells #[.slice none 0 0] 48)) := by
    refine ⟨hix.alloc _, hz, World.ownsRow_nil _ _ _ _, (fun a c h => by cases h), ?_, ?_, by simp; omega⟩
    · refine (Below.heap_alloc _ _ _ (by omega)).trans ((hb.block _ (by omega)).trans (heap_alloc_new _ _))
    · exact (((Below.refl _ _).alloc (Nat.le_refl _) _).trans (hb.mono (by omega))).alloc (by omega) _
  clear hz hix hb hz1
  generalize hB : w.heap.size = B at *
  have HB := hide' hB
  clear hB
  go_loopw [5] (fun i w' => ∃ (k : Nat) (zs : List Nat) (ao : Option Addr) (cp : Nat) (lo : Option Addr) (lc : Nat), k ≤ N ∧ i = .int .i64 k ∧ zs.length ≤ k ∧ FS B ao cp lo lc zs w w') (fun i _ => N - (intOf i).toNat)
  case atStart => exact ⟨0, [], none, 0, none, 0, Nat.zero_le _, rfl, Nat.zero_le _, hps⟩
  case round =>
    obtain ⟨i, zs, ao, cp, lo, lc, hi, rfl, hzl, hps⟩ := hrel
    by_cases hlt : i < N
    · have ha1 := Ha0.out (by omega)
      have hbl := Hbl.out (by omega)
      subst ha1
      clear Ha0 Hbl
      obtain ⟨d, vs, vf, k, n, vm, hs0⟩ := Hst.out i hlt
      have bc : ∀ o, wr.cell? ⟨b, o, none⟩ = w.cell? ⟨b, o, none⟩ := fun o => hps.bel.cell (p := ⟨b, o, none⟩) hbl
      have s0 := (bc _).trans hs0.c0
      have s1 := (bc _).trans hs0.c1
      have s2 := (bc _).trans hs0.c2
      have s3 := (bc _).trans hs0.c3
      have s4 := (bc _).trans hs0.c4
      have s5 := (bc _).trans hs0.c5
      have s6 := (bc _).trans hs0.c6
      have hli : (i : Int) < (N : Int) := by omega
      clear bc
      have HPS := hide' hps
      have hwn := hs0.wn
      have hbsz := hps.sz
      clear hps hs0
      have hps1 := HPS.out.far ((Turn.refl _ wr).alloc (.cells #[.int .i64 d, .string vs, .float .f64 vf, .int .i64 k.1, .int .i64 k.2, .int .i64 n, .int .i64 vm] 42))
      have hsb : (wr.alloc (.cells #[.int .i64 d, .string vs, .float .f64 vf, .int .i64 k.1, .int .i64 k.2, .int .i64 n, .int .i64 vm] 42)).heap[wr.heap.size]? = some (.cells #[.int .i64 d, .string vs, .float .f64 vf, .int .i64 k.1, .int .i64 k.2, .int .i64 n, .int .i64 vm] 42 (0, 0)) := heap_alloc_new _ _
      have Hps1 := hide' hps1
      have Hsb := hide' hsb
      have l0 : (wr.alloc (.cells #[.int .i64 d, .string vs, .float .f64 vf, .int .i64 k.1, .int .i64 k.2, .int .i64 n, .int .i64 vm] 42)).cell? ⟨B + 1 + 2, 0, none⟩ = some (.slice lo zs.length lc) := hps1.lc0
      have hlt3 : B + 1 + 2 < wr.heap.size := by omega
      have lw0 := HPS.out.lc0
      have Hpl := hide' (fun x hx => place_any (B + 1) lo lc zs vf x hx (by omega))
      clear hps1 hsb l0
      go_wp2_with fail
      refine (Hpl.out _ Hps1.out.lrow).mono ?_
      rintro e w1 ⟨rfl, hw1⟩
      have hle := pos_le vf zs
      obtain ⟨A, hA⟩ : ∃ A : Int, A = ((pos vf zs : Nat) : Int) - 1 := ⟨_, rfl⟩
      rw [← hA]
      have HA := hide' hA
      have hA1 : -1 ≤ A := by omega
      have hA2 : A ≤ 1000 := by omega
      have hzl2 : (zs.length : Int) ≤ 1000 := by omega
      clear hA hle s0 s1 s2 s3 s4 s5 s6 Hpl HPS lw0
      rw [← hw1] at Hps1 Hsb
      clear hw1
      generalize wr.heap.size = sb at *
      have HPS3 := Hps1
      have hsb := Hsb.out
      have q0 : w1.cell? ⟨sb, 0, none⟩ = some (.int .i64 d) := Lib.cell_of_heap hsb 0
      have q2 : w1.cell? ⟨sb, 2, none⟩ = some (.float .f64 vf) := Lib.cell_of_heap hsb 2
      have q5 : w1.cell? ⟨sb, 5, none⟩ = some (.int .i64 n) := Lib.cell_of_heap hsb 5
      have hlsb : sb < w1.heap.size := (Array.getElem?_eq_some_iff.1 hsb).1
      clear Hps1 hsb
      by_cases d1 : d = 1
      · have e1 : (d == 1) = true := by simpa using d1
        clear d1
        by_cases hin : pos vf zs = 0
        · have hA3 : A = -1 := by have := HA.out; omega
          have hof := fun x (hx : FI (B + 1) (B + 1 + 1) (B + 1) ao cp zs x) => of_new (B + 1) (B + 1 + 1) (B + 1) ao cp zs vf x hx hin (by omega)
          have Hof := hide' hof
          have Hdone := hide' (fun (g lc' g2 cp2 : Nat) (wa wb : World) (h : FM B ao cp g lc' zs vf w wa) (hx : FI (B + 1) (B + 1 + 1) (B + 1) (some ⟨g2, 0, none⟩) cp2 (zs ++ [vf]) wb) (ht : Turn (Own (B + 1 + 1) (B + 1) ao) wa wb) (ho : ao = some ⟨g2, 0, none⟩ ∨ wa.heap.size ≤ g2) => h.done hx ht ho)
          clear HA hA1 hA2 hof hin
          subst hA3
          obtain ⟨i0, hi0, hz0, hz1, hz2⟩ := info_parts infoE
          have t0 := HPS3.out.lc0
          have Hlow := hide' HPS3.out.lown
          have Hrow := hide' HPS3.out.lrow
          have hszw : B + 4 ≤ w1.heap.size := HPS3.out.sz
          have fz : w1.frozen? ⟨B + 1 + 2, 0, none⟩ = false := Lib.frozen_of_heap HPS3.out.lbx 0
          have hsbo : (Value.slice lo zs.length lc).ownBlock ≠ some sb := by
            intro q
            have := Hrow.out
            cases lo with
            | none => cases q
            | some a =>
              simp only [Value.ownBlock, Option.some.injEq] at q
              rcases this.2 with ⟨hv, _⟩ | ⟨g, cap', cur, hv, hb, hg, _⟩
              · cases hv
              · simp only [Value.slice.injEq, Option.some.injEq] at hv
                obtain ⟨rfl, _, _⟩ := hv
                have hg' : w1.heap[g]? = some (.cells cur 39 (0, 0)) := hg
                rw [show g = sb from q, Hsb.out] at hg'
                cases hg'
          have Hsbo := hide' hsbo
          have b1 : Hid (zs.length + 1 ≤ maxLen) := (show zs.length + 1 ≤ maxLen by unfold maxLen; omega)
          have b2 : Hid ((zs.length + 1) * 8 ≤ 140737488355328) := (show (zs.length + 1) * 8 ≤ 140737488355328 by omega)
          have HQ := hide' q2
          clear hsbo
          go_wp2_with (first | (at_builtin; refine wpList_append_lies _ rfl _ _ 48 rfl (B + 1) 39 i0 (.float .f64 0) 1 8 Try.underlying48 hi0 hz0 hz1 hz2 rfl (by decide) _ zs.length (zs.flatMap cells) rfl (Hrow.out.alloc _) ⟨w1.heap.size, 0, none⟩ 1 1 [.float .f64 vf] rfl rfl (cell_one_new _ _ _) (by simp [Value.oneCell']) (by decide) b1.out b2.out (by simp; omega) (w1.heap.size + 1) (by simp) ?_; intro g rc' w3 hrow3 hgrow3 hat3 hlt3; have c0' := (alloc_cell (o := 0) hgrow3 (show B + 1 + 2 < w1.heap.size by omega) (fun q => (Hlow.out _ q.symm).2.2.1 rfl)).trans t0; have f0' := (alloc_frozen (o := 0) hgrow3 (show B + 1 + 2 < w1.heap.size by omega) (fun q => (Hlow.out _ q.symm).2.2.1 rfl)).trans fz; have k0' := (alloc_cell (o := 2) hgrow3 hlsb (fun q => Hsbo.out q.symm)).trans HQ.out; have hmid := HPS3.out.mid hgrow3 hrow3 hat3; have HM := hide' hmid; clear hmid hrow3 hgrow3 hat3 hlt3 HPS3 t0 fz q0 q2 q5) | (go_at_call 25; refine (Hof.out _ HM.out.ix).mono ?_; rintro e w5 ⟨rfl, g2, cp2, hix5, ht5, ho5⟩; have hpsT := Hdone.out _ _ _ _ _ _ HM.out hix5 ht5 ho5; clear HM hix5 ht5 ho5; have HT := hide' hpsT; clear hpsT))
          have hzz : zs.length + 1 = (zs ++ [vf]).length := by simp
          have hzl3 : (zs ++ [vf]).length ≤ i + 1 := by omega
          generalize zs ++ [vf] = zs2 at *
          have t0 := HT.out.lc0
          clear hzz
          go_quiet ((go_at_call 29; first | exact Calls.quiet_of_same (len_any _ _ _ _ _ _ _ HT.out.ix) | exact Calls.quiet_of_same (len_any _ _ _ _ _ _ _ (HT.out.ix.drewN _))))
          go_wp2
          exact ⟨⟨i + 1, zs2, _, _, _, _, by omega, by go_num, hzl3, HT.out.far ((Turn.refl _ _).drewN _)⟩, by simp [intOf]; omega⟩
        · have hof := fun x (hx : FI (B + 1) (B + 1 + 1) (B + 1) ao cp zs x) => of_old (B + 1) (B + 1 + 1) (B + 1) ao cp zs vf x hx hin
          have hA3 : 0 ≤ A := by have := HA.out; omega
          rw [show ((pos vf zs : Nat) : Int) = A + 1 from by have := HA.out; omega] at hof
          have Hof := hide' hof
          have g1 : ((A + 1) != (A + 1)) = false := by simp
          clear hof hin
          go_wp2_with fail
          refine (Hof.out _ HPS3.out.ix).mono ?_
          rintro e w2 ⟨rfl, hw2⟩
          rw [← hw2] at HPS3
          clear hw2 q0 q2 q5
          have HT := HPS3
          have t0 := HT.out.lc0
          clear HPS3
          go_wp2_with fail
          go_quiet ((go_at_call 29; first | exact Calls.quiet_of_same (len_any _ _ _ _ _ _ _ HT.out.ix) | exact Calls.quiet_of_same (len_any _ _ _ _ _ _ _ (HT.out.ix.drewN _))))
          go_wp2
          exact ⟨⟨i + 1, zs, ao, cp, lo, lc, by omega, by go_num, by omega, HT.out.far ((Turn.refl _ _).drewN _)⟩, by simp [intOf]; omega⟩
      have e1 : (d == 1) = false := by simpa using d1
      by_cases d2 : d = 2
      · have e2 : (d == 2) = true := by simpa using d2
        obtain ⟨di, hdi⟩ : ∃ di, decide (pos vf zs ≠ 0) = di := ⟨_, rfl⟩
        have hge : decide (0 ≤ A) = di := by
          rw [← hdi, Bool.eq_iff_iff, decide_eq_true_eq, decide_eq_true_eq]
          have := HA.out
          omega
        have hfd := fun x (hx : FI (B + 1) (B + 1 + 1) (B + 1) ao cp zs x) => find_any (B + 1) (B + 1 + 1) (B + 1) ao cp zs vf x hx
        rw [hdi, show ((pos vf zs : Nat) : Int) = A + 1 from by have := HA.out; omega] at hfd
        have Hfd := hide' hfd
        have g1 : ((A + 1) != (A + 1)) = false := by simp
        have g2 : (di != di) = false := by simp
        clear hfd hdi d1 d2
        go_wp2_with fail
        refine (Hfd.out _ HPS3.out.ix).mono ?_
        rintro e w2 ⟨rfl, hw2⟩
        rw [← hw2] at HPS3
        clear hw2 q0 q2 q5
        have HT := HPS3
        have t0 := HT.out.lc0
        clear HPS3
        go_wp2_with fail
        go_quiet ((go_at_call 29; first | exact Calls.quiet_of_same (len_any _ _ _ _ _ _ _ HT.out.ix) | exact Calls.quiet_of_same (len_any _ _ _ _ _ _ _ (HT.out.ix.drewN _))))
        go_wp2
        exact ⟨⟨i + 1, zs, ao, cp, lo, lc, by omega, by go_num, by omega, HT.out.far ((Turn.refl _ _).drewN _)⟩, by simp [intOf]; omega⟩
      have e2 : (d == 2) = false := by simpa using d2
      by_cases d3 : d = 3
      · have e3 : (d == 3) = true := by simpa using d3
        clear d1 d2 d3
        by_cases hth : 1 ≤ n ∧ n ≤ (zs.length : Int)
        · obtain ⟨n1, n2⟩ := hth
          have hidx : (n - 1).toNat < zs.length := by omega
          obtain ⟨j, hj⟩ : ∃ j, zs[(n - 1).toNat]? = some j := ⟨_, List.getElem?_eq_getElem hidx⟩
          have hay := fun x (hx : FI (B + 1) (B + 1 + 1) (B + 1) ao cp zs x) => at_yes (B + 1) (B + 1 + 1) (B + 1) ao cp zs n j x hx n1 n2 (by omega) hj
          have Hay := hide' hay
          obtain ⟨u, hu⟩ : ∃ u : Nat, n - 1 = (u : Int) := ⟨(n - 1).toNat, by omega⟩
          rw [show (n - 1).toNat = u from by omega] at hj hidx
          rcases lo with _ | ⟨ab, a1, a2⟩
          · have := row_none HPS3.out.lrow; omega
          · obtain ⟨ha, r0⟩ := row_at HPS3.out.lrow u j hj
            have hlcap := (row_cap HPS3.out.lrow).2.1
            simp only [Addr.mk.injEq, true_and] at ha
            obtain ⟨rfl, rfl⟩ := ha
            have hui : (u : Int) < (zs.length : Int) := by omega
            have Hal := hide' (fun x => alike_same j x)
            have l0 := HPS3.out.lc0
            clear hay hj hidx
            go_wp2_with (first | (go_at_call 27; refine (Hay.out _ HPS3.out.ix).mono ?_; rintro e w2 ⟨rfl, hw2⟩; subst hw2) | (go_at_call 28; refine (Hal.out _).mono ?_; rintro e w3 ⟨rfl, hw3⟩; subst hw3))
            have HT := HPS3
            have t0 := HT.out.lc0
            go_quiet ((go_at_call 29; first | exact Calls.quiet_of_same (len_any _ _ _ _ _ _ _ HT.out.ix) | exact Calls.quiet_of_same (len_any _ _ _ _ _ _ _ (HT.out.ix.drewN _))))
            go_wp2
            exact ⟨⟨i + 1, zs, ao, cp, _, lc, by omega, by go_num, by omega, HT.out.far ((Turn.refl _ _).drewN _)⟩, by simp [intOf]; omega⟩
        · by_cases hn1 : 1 ≤ n
          · have g2 : decide (n ≤ (zs.length : Int)) = false := by simp; omega
            have hn2 : (zs.length : Int) < n := by omega
            clear hth
            have hay := fun x (hx : FI (B + 1) (B + 1 + 1) (B + 1) ao cp zs x) => at_no (B + 1) (B + 1 + 1) (B + 1) ao cp zs n x hx (by omega)
            have Hay := hide' hay
            have gz : (FloatKind.f64.format.order 0 0 != some .eq) = false := by kernel_rfl
            have l0 := HPS3.out.lc0
            clear hay
            go_wp2_with (first | (go_at_call 27; refine (Hay.out _ HPS3.out.ix).mono ?_; rintro e w2 ⟨rfl, hw2⟩; subst hw2))
            have HT := HPS3
            have t0 := HT.out.lc0
            go_quiet ((go_at_call 29; first | exact Calls.quiet_of_same (len_any _ _ _ _ _ _ _ HT.out.ix) | exact Calls.quiet_of_same (len_any _ _ _ _ _ _ _ (HT.out.ix.drewN _))))
            go_wp2
            exact ⟨⟨i + 1, zs, ao, cp, lo, lc, by omega, by go_num, by omega, HT.out.far ((Turn.refl _ _).drewN _)⟩, by simp [intOf]; omega⟩
          · have g1 : decide (1 ≤ n) = false := by simp; omega
            have hn2 : n < 1 := by omega
            clear hth
            have hay := fun x (hx : FI (B + 1) (B + 1 + 1) (B + 1) ao cp zs x) => at_no (B + 1) (B + 1 + 1) (B + 1) ao cp zs n x hx (by omega)
            have Hay := hide' hay
            have gz : (FloatKind.f64.format.order 0 0 != some .eq) = false := by kernel_rfl
            have l0 := HPS3.out.lc0
            clear hay
            go_wp2_with (first | (go_at_call 27; refine (Hay.out _ HPS3.out.ix).mono ?_; rintro e w2 ⟨rfl, hw2⟩; subst hw2))
            have HT := HPS3
            have t0 := HT.out.lc0
            go_quiet ((go_at_call 29; first | exact Calls.quiet_of_same (len_any _ _ _ _ _ _ _ HT.out.ix) | exact Calls.quiet_of_same (len_any _ _ _ _ _ _ _ (HT.out.ix.drewN _))))
            go_wp2
            exact ⟨⟨i + 1, zs, ao, cp, lo, lc, by omega, by go_num, by omega, HT.out.far ((Turn.refl _ _).drewN _)⟩, by simp [intOf]; omega⟩
      have e3 : (d == 3) = false := by simpa using d3
      clear d1 d2 d3
      have HT := HPS3
      have t0 := HT.out.lc0
      clear HPS3
      go_wp2_with fail
      go_quiet ((go_at_call 29; first | exact Calls.quiet_of_same (len_any _ _ _ _ _ _ _ HT.out.ix) | exact Calls.quiet_of_same (len_any _ _ _ _ _ _ _ (HT.out.ix.drewN _))))
      go_wp2
      exact ⟨⟨i + 1, zs, ao, cp, lo, lc, by omega, by go_num, by omega, HT.out.far ((Turn.refl _ _).drewN _)⟩, by simp [intOf]; omega⟩
    · have hge : (N : Int) ≤ (i : Int) := by omega
      have HPS := hide' hps
      have Hal := hide' (fun x (hx : FI (B + 1) (B + 1 + 1) (B + 1) ao cp zs x) => all_any (B + 1) (B + 1 + 1) (B + 1) ao cp zs x hx)
      have hix1 := HPS.out.far ((Turn.refl _ wr).alloc (.cells #[.int .i64 0] 3))
      have HI1 := hide' hix1
      clear hps hix1 hlt
      go_wp2_with (go_at_call 30; refine (Hal.out _ HI1.out.ix).mono ?_; rintro e w2 ⟨rfl, rfl⟩)
      clear HI1 Hal
      have hsz : B + 4 ≤ wr.heap.size := HPS.out.sz
      have bS := Boxed.new wr 3 (.int .i64 0)
      have bN := Boxed.new (wr.alloc (.cells #[.int .i64 0] 3)) 48 (.slice ao zs.length cp)
      rw [World.size_alloc] at bN
      have hB0 : Below wr.heap.size wr ((wr.alloc (.cells #[.int .i64 0] 3)).alloc (.cells #[.slice ao zs.length cp] 48)) := ((Below.refl _ wr).alloc (Nat.le_refl _) _).alloc (by simp) _
      have hrow0 : ((wr.alloc (.cells #[.int .i64 0] 3)).alloc (.cells #[.slice ao zs.length cp] 48)).ownsRow (B + 1) 39 1 (.slice ao zs.length cp) zs.length (zs.flatMap cells) := (HPS.out.ix.row.alloc _).alloc _
      refine (wpIn_wide (n := 9)).1 ?_
      refine wpIn_rangeFunc_ownH (F := Fence.wide) rfl (by omega) (gf := 49) (lb := #[.pointer (some ⟨wr.heap.size + 1, 0, none⟩)]) rfl trivial (enters_of Try.func49 (by kernel_rfl) rfl)
        (all_stops Fence.wide (9 - 1) trivial rfl (by omega) (wr.heap.size + 1) wr.heap.size (B + 1) ao cp zs (by omega) _ (by simp) (by simp; omega) bN.cell hrow0 (fun a ha => (HPS.out.ix.apart a ha).2.2.2)) belowK_t (belowK_b (by simp; omega)) (Below.refl _ _) (fun _ => rfl)
        (fun (pre : List Nat) W => (W.cell? ⟨wr.heap.size, 0, none⟩ = some (.int .i64 (pre.length : Int)) ∧ W.frozen? ⟨wr.heap.size, 0, none⟩ = false ∧ pre = List.range pre.length ∧ wr.heap.size < W.heap.size) ∧ Below wr.heap.size wr W)
        (fun c pre W => c = .ret ∧ pre ≠ List.range pre.length)
        (OwnFrom.and (Own.from (fun s A B row hs hg hr => ⟨cell_kept hs.1 hg hr, (frozen_kept hs.1 hg hr).trans hs.2.1, hs.2.2.1, Nat.lt_of_lt_of_le hs.2.2.2 hg.size⟩) _) (ownFrom_below (Nat.le_refl _) (by simp; omega)))
        (fun c s A B row hs _ _ => hs)
        ⟨⟨(bS.alloc _).cell, (bS.alloc _).frozen, rfl, by simp; omega⟩, hB0⟩
        (fun j a' W => a' = { tmps := #[.slice a0 N cap, undef, .pointer (some ⟨B, 0, none⟩), .pointer (some ⟨B + 1 + 1, 0, none⟩), .pointer (some ⟨B + 1 + 2, 0, none⟩), .int .i64 (i : Int), u6, u7, u8, u9, u10, u11, u12, .pointer (some ⟨wr.heap.size, 0, none⟩), .int .i64 ((j : Int) + 1), .float .f64 (at0 zs j), .pointer (some ⟨B + 1 + 1, 0, none⟩), .pointer (some ⟨B + 1 + 1, 0, none⟩), .bool false, .slice a0 len cap, .slice a0 N cap, .int .i64 (i : Int), .slice a0 N cap, .int .i64 (N : Int), .bool false, u25, u26, u27, u28, u29, u30, u31, u32, u33, u34, u35, u36, u37, u38, u39, u40, u41, u42, u43, u44, u45, u46, u47, u48, u49, u50, u51, u52, u53, u54, u55, u56, u57, u58, u59, u60, u61, u62, u63, u64, u65, u66, u67, u68, u69, u70, u71, u72, u73, u74, u75, u76, u77, u78, u79, u80, u81, u82, u83, u84, u85, u86, u87, u88, u89, u90, u91, u92, u93, u94, u95, u96, u97, u98, u99, u100, u101, u102, u103, u104, u105, u106, u107, u108, u109, u110, u111, u112, u113, u114, u115, u116, u117, u118, u119, u120, u121, u122, u123, .pointer (some ⟨B + 1 + 1, 0, none⟩), .func (.func 49) #[] #[.pointer (some ⟨wr.heap.size + 1, 0, none⟩)], .int .i64 ((j : Int) + 1), .float .f64 (at0 zs j), undef, undef, undef, undef, undef, undef, undef, undef, undef, undef, undef, undef, undef, undef, undef, undef, undef, undef, undef, undef, undef, undef, undef, undef, undef], defers := [] })
        (fun x a' => fun s A B row hs hg hr => hs)
        ?assign ?body ?done ?stop
      case assign =>
        rintro l pre j W K hI hK
        unfold encs
        gi_wp2
        exact hK _ _ (KeepsFrom.refl _ _) (Below.refl _ _) hI rfl
      case body =>
        rintro l pre j a' W hl ⟨r, hr⟩ ⟨⟨hk, hf, hp, hlt⟩, hB⟩ rfl hpl
        have l0 : W.cell? ⟨B + 1 + 2, 0, none⟩ = some (.slice lo zs.length lc) := (hB.cell (p := ⟨B + 1 + 2, 0, none⟩) (show B + 1 + 2 < wr.heap.size by omega)).trans HPS.out.lc0
        have hzl2 : zs.length ≤ 1000 := by omega
        have hpi : (pre.length : Int) < (zs.length : Int) := by omega
        have gk : decide (zs.length ≤ pre.length) = false := by simp; omega
        have gk2 : decide ((zs.length : Int) ≤ (pre.length : Int)) = false := by simp; omega
        have Hp := hide' hp
        clear hp
        by_cases hj : j = pre.length
        · subst hj
          obtain ⟨z, hz⟩ : ∃ z, at0 zs pre.length = z := ⟨_, rfl⟩
          have hgz := at0_get hpl
          rw [hz] at hgz
          rw [hz]
          have g1 : (((pre.length : Int) + 1) != ((pre.length : Int) + 1)) = false := by simp
          have Hal := hide' (fun x => alike_same z x)
          have hlr := HPS.out.lrow
          rcases lo with _ | ⟨lb, lo', lx⟩
          · have := row_none hlr; omega
          · obtain ⟨ha, r0⟩ := row_at hlr pre.length _ hgz
            obtain ⟨_, hlcap, hlb, _⟩ := row_cap hlr
            simp only [Addr.mk.injEq, true_and] at ha
            obtain ⟨rfl, rfl⟩ := ha
            have hlb' : lb < wr.heap.size := hlb
            have r0' := (hB.cell (p := ⟨lb, pre.length, none⟩) hlb').trans r0
            clear hlr r0 HPS hgz hz hlb
            gi_wp2_with (first | (gi_at_call 28; refine (CallsIn.inRound l (callsIn_wide.2 (Hal.out _))).mono ?_; rintro e w3 ⟨rfl, hw3⟩; subst hw3) | (refine ⟨trivial, ?_⟩; gi_at_call 28; refine (CallsIn.inRound l (callsIn_wide.2 (Hal.out _))).mono ?_; rintro e w3 ⟨rfl, hw3⟩; subst hw3))
            have ht : Turn (fun j => j = wr.heap.size) w3 (w3.setCell ⟨wr.heap.size, 0, none⟩ (.int .i64 ((pre.length : Int) + 1))) := (Turn.refl (fun j => j = wr.heap.size) w3).setCell (p := ⟨wr.heap.size, 0, none⟩) (fun _ => rfl) _
            have hlen : (pre ++ [pre.length]).length = pre.length + 1 := by simp
            refine ⟨(KeepsOthers.setCell w3 _ _).from _, ht.below (fun j q => by omega) hB.size, ⟨?_, ?_, ?_, ?_⟩, hB.trans (ht.below (fun j q => by omega) hB.size)⟩
            · rw [hlen]
              exact World.cell?_setCell_same' _ _ _ (by rw [hk]; rfl)
            · rw [World.frozen?_setCell]; exact hf
            · rw [hlen, List.range_succ, ← Hp.out]
            · have := ht.size; omega
        · have g1 : (((j : Int) + 1) != ((pre.length : Int) + 1)) = true := by simp; omega
          have rb : W.cell? ⟨B, 0, none⟩ = some (.bool false) := (hB.cell (p := ⟨B, 0, none⟩) (show B < wr.heap.size by omega)).trans (Lib.cell_of_heap HPS.out.rbx 0)
          have rf : W.frozen? ⟨B, 0, none⟩ = false := (World.frozen?_of_block (w := wr) (hB.block B (by omega))).trans (Lib.frozen_of_heap HPS.out.rbx 0)
          clear HPS
          gi_wp2
          refine ⟨trivial, ?_⟩
          gi_wp2
          refine ⟨(KeepsOthers.setCell W _ _).from _, rfl, ?_⟩
          intro q
          have hlen : (pre ++ [j]).length = pre.length + 1 := by simp
          rw [hlen, List.range_succ] at q
          have := (List.append_inj' q rfl).2
          simp at this
          exact hj this
      case done =>
        rintro D ys W hD rfl ⟨⟨hk, hf, _, hlt⟩, hB⟩ hK
        rw [List.length_range] at hk
        have l0 : W.cell? ⟨B + 1 + 2, 0, none⟩ = some (.slice lo zs.length lc) := (hB.cell (p := ⟨B + 1 + 2, 0, none⟩) (show B + 1 + 2 < wr.heap.size by omega)).trans HPS.out.lc0
        have rb : W.cell? ⟨B, 0, none⟩ = some (.bool false) := (hB.cell (p := ⟨B, 0, none⟩) (show B < wr.heap.size by omega)).trans (Lib.cell_of_heap HPS.out.rbx 0)
        have rf : W.frozen? ⟨B, 0, none⟩ = false := (World.frozen?_of_block (w := wr) (hB.block B (by omega))).trans (Lib.frozen_of_heap HPS.out.rbx 0)
        have Hbel := hide' HPS.out.bel
        have HbB := hide' hB
        have HhK := hide' hK
        have g1 : ((zs.length : Int) == (zs.length : Int)) = true := by simp
        clear HPS hB hK
        go_wp2
        have hK' := (KeepsOthers.setCell W ⟨B, 0, none⟩ (.bool true)).same D _ HhK.out rfl
        refine ⟨by simp, .inl ⟨_, _, rfl, run_takeDeferred hK', ?_⟩⟩
        have hc5 := cell_kept (World.cell?_setCell_same' W ⟨B, 0, none⟩ (.bool true) (by rw [rb]; rfl)) (grownBy_putObj' _ D (.deferred none)) (fun r e => by cases e; exact ⟨_, hK', rfl⟩)
        have hwB : w.heap.size = B := HB.out
        refine ⟨.bool true, ?_, rfl, ?_⟩
        · simp [results, Try.f8, go_sem, hc5]
        · rw [hwB]
          exact ((Hbel.out.trans (HbB.out.mono (by omega))).setCell (p := ⟨B, 0, none⟩) (Nat.le_refl _) _).trans (belowK_b (w := w) (by omega) _ D _ _ (by simp at hD; omega) hK' rfl rfl)
      case stop =>
        rintro D c pre W _ ⟨k, _, rfl⟩ ⟨_, h⟩ _
        exact absurd (by rw [List.length_range]) h
end F
end Go.Proofs.Ytgjdpgmffhihnaa
