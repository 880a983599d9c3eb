import Derived.Test.YtnpdmeeolcjmlaaScE
import Derived.Test.YtnpdmeeolcjmlaaIn4
set_option linter.unusedVariables false
set_option linter.unusedSimpArgs false
namespace Go.Proofs.Ytnpdmeeolcjmlaa
open Go.RowKit
namespace C
open M F
variable {w0 w w' : World} {n x y s lb l1 l2 k nx sv : Nat} {K : Nat}
/-- a step, whatever it is -/
theorem sc_all (q : S4) (h : Sn w0 n x y s lb l1 l2 k nx sv K w) (hK : K < 1999990) (hsv : sv < n) :
    Calls Try.prog 17 #[.pointer (some ⟨s, 0, none⟩), .agg #[.int .i64 q.d, .int .i64 q.n, .int .i64 q.a, .int .i64 q.b]] w fun e w' => e = .returned (.bool true) ∧ Sn w0 n x y s lb l1 l2 k nx sv (K + 1) w' := by
  obtain ⟨d, N, A, V⟩ := q
  by_cases h1 : d = 1
  · subst h1; exact sc_enter N A V h hK
  by_cases h2 : d = 2
  · subst h2; exact sc_step N A V h hK hsv
  by_cases h3 : d = 3
  · subst h3; exact sc_ready N A V h hK hsv
  by_cases h4 : d = 4
  · subst h4; exact sc_ticket N A V h hK hsv
  by_cases h5 : d = 5
  · subst h5; exact sc_leave N A V h (by omega)
  by_cases h6 : d = 6
  · subst h6; exact sc_store N A V h (by omega)
  by_cases h7 : d = 7
  · subst h7; exact sc_poison N A V h (by omega)
  by_cases h8 : d = 8
  · subst h8; exact sc_clear N A V h (by omega)
  exact sc_other d N A V h hK h1 h2 h3 h4 h5 h6 h7 h8
theorem row_lower2 {B B' e size m : Nat} {v : Value} {xs : List Value} (h : w.ownsRow B e size v m xs) (hB : B' ≤ B) : w.ownsRow B' e size v m xs := by
  refine ⟨h.1, ?_⟩
  rcases h.2 with q | ⟨g, cap, cur, hv, hb, rest⟩
  · exact .inl q
  · exact .inr ⟨g, cap, cur, hv, Nat.le_trans hB hb, rest⟩
theorem rem_lower2 {D : Nat → Prop} {B B' m : Nat} {ws : List Int} {tr : List Ac} {bad : Nat} (h : Rem D B x ws m tr bad w) (hB : B' ≤ B) : Rem D B' x ws m tr bad w := by
  obtain ⟨hb, few, lo, lc, lg, eo, ec, hm, hr, hl, hd⟩ := h
  exact ⟨hb, few, lo, lc, lg, eo, ec, ⟨hm.hx, row_lower2 hm.log hB, row_lower2 hm.row hB, Nat.le_trans hB hm.lx⟩, hr, hl, hd⟩
/-- all that is made ahead of the script -/
theorem Sn.start {D R : Nat → Prop} {w1 w2 w3 w4 w5 : World} (h1 : Mem D w0.heap.size x (List.replicate n 0) [] 0 w1) (b1 : Below w0.heap.size w0 w1) (h2 : Rem R w1.heap.size y (List.replicate n 0) 0 [] 0 w2) (b2 : Below w1.heap.size w1 w2)
    (h3 : w3 = w2.alloc (.cells #[.pointer (some ⟨x, 0, none⟩), .int .i64 (nx : Nat), .int .i64 (sv : Nat)] 71)) (h4 : w4 = w3.alloc (.cells #[.pointer (some ⟨x, 0, none⟩), .int .i64 (nx : Nat), .int .i64 (sv : Nat)] 71)) (h5 : w5 = w4.alloc (.cells #[.pointer (some ⟨y, 0, none⟩), .int .i64 (nx : Nat), .int .i64 (sv : Nat)] 79)) :
    Sn w0 n x y (w5.heap.size + 1) w5.heap.size w2.heap.size w3.heap.size w4.heap.size nx sv 0 ((w5.alloc (.cells #[.pointer (some ⟨w2.heap.size, 0, none⟩), .pointer (some ⟨w3.heap.size, 0, none⟩)] 26)).alloc (.cells #[.pointer (some ⟨x, 0, none⟩), .slice (some ⟨w5.heap.size, 0, none⟩) 2 2, .slice none 0 0, .pointer (some ⟨y, 0, none⟩), .pointer (some ⟨w4.heap.size, 0, none⟩), .slice none 0 0] 49)) := by
  have s1 := b1.size
  have s2 := b2.size
  have t3 : Below w2.heap.size w2 w3 := by rw [h3]; exact (Below.refl _ _).alloc (Nat.le_refl _) _
  have t4 : Below w3.heap.size w3 w4 := by rw [h4]; exact (Below.refl _ _).alloc (Nat.le_refl _) _
  have t5 : Below w4.heap.size w4 w5 := by rw [h5]; exact (Below.refl _ _).alloc (Nat.le_refl _) _
  have k3 : Lk w2.heap.size x nx sv w3 := by rw [h3]; exact lnew_lk x nx sv w2
  have k4 : Lk w3.heap.size x nx sv w4 := by rw [h4]; exact lnew_lk x nx sv w3
  have k5 : RLk w4.heap.size y nx sv w5 := by rw [h5]; exact rnew_lk y nx sv w4
  have s3 := t3.size
  have s4 := t4.size
  have s5 := t5.size
  have t6 : Below w5.heap.size w5 (w5.alloc (.cells #[.pointer (some ⟨w2.heap.size, 0, none⟩), .pointer (some ⟨w3.heap.size, 0, none⟩)] 26)) := (Below.refl _ _).alloc (Nat.le_refl _) _
  have hz : (w5.alloc (.cells #[.pointer (some ⟨w2.heap.size, 0, none⟩), .pointer (some ⟨w3.heap.size, 0, none⟩)] 26)).heap.size = w5.heap.size + 1 := by simp
  have hl := heap_alloc_new w5 (.cells #[.pointer (some ⟨w2.heap.size, 0, none⟩), .pointer (some ⟨w3.heap.size, 0, none⟩)] 26)
  generalize w5.alloc (.cells #[.pointer (some ⟨w2.heap.size, 0, none⟩), .pointer (some ⟨w3.heap.size, 0, none⟩)] 26) = w6 at *
  have t7 : Below w6.heap.size w6 (w6.alloc (.cells #[.pointer (some ⟨x, 0, none⟩), .slice (some ⟨w5.heap.size, 0, none⟩) 2 2, .slice none 0 0, .pointer (some ⟨y, 0, none⟩), .pointer (some ⟨w4.heap.size, 0, none⟩), .slice none 0 0] 49)) := (Below.refl _ _).alloc (Nat.le_refl _) _
  have hs := heap_alloc_new w6 (.cells #[.pointer (some ⟨x, 0, none⟩), .slice (some ⟨w5.heap.size, 0, none⟩) 2 2, .slice none 0 0, .pointer (some ⟨y, 0, none⟩), .pointer (some ⟨w4.heap.size, 0, none⟩), .slice none 0 0] 49)
  generalize w6.alloc (.cells #[.pointer (some ⟨x, 0, none⟩), .slice (some ⟨w5.heap.size, 0, none⟩) 2 2, .slice none 0 0, .pointer (some ⟨y, 0, none⟩), .pointer (some ⟨w4.heap.size, 0, none⟩), .slice none 0 0] 49) = w7 at *
  rw [hz] at hs
  have s6 := t6.size
  have hm := (((((h1.below b2).below t3).below t4).below t5).below t6).below t7
  have hr := (((((rem_lower2 h2 s1)).below t3).below t4).below t5).below t6 |>.below t7
  refine ⟨(((((b1.trans (b2.mono s1)).trans (t3.mono (by omega))).trans (t4.mono (by omega))).trans (t5.mono (by omega))).trans (t6.mono (by omega))).trans (t7.mono (by omega)), fun j => D j ∨ R j, List.replicate n 0, [], 0, [], none, 0, none, 0, ⟨D, R, hm, hr, fun j hj q => ?_, fun j => Iff.rfl⟩, by simp, Nat.le_refl _, Nat.le_refl _, ⟨hs, (t7.block _ (lt_of_heap hl)).trans hl, (((k3.below t4).below t5).below t6).below t7, ((k4.below t5).below t6).below t7, (k5.below t6).below t7, World.ownsRow_nil _ _ _ _, World.ownsRow_nil _ _ _ _, fun i p hp => (by simp at hp), fun i j p u hp => (by simp at hp), by omega⟩⟩
  have := (h1.lo hj).2
  have := (h2.low q).1
  omega
/-- a step out of a script -/
theorem s4_cells {wx : World} {a : Option Addr} {ss : List S4} (h : Ss4 w a ss) (bl : Below w.heap.size w wx) {j : Nat} (hj : j < ss.length) : ∃ b off, a = some ⟨b, off, none⟩ ∧ (wx.cell? ⟨b, off + j * 4, none⟩ = some (.int .i64 ss[j].d) ∧ wx.cell? ⟨b, off + j * 4 + 1, none⟩ = some (.int .i64 ss[j].n) ∧ wx.cell? ⟨b, off + j * 4 + 2, none⟩ = some (.int .i64 ss[j].a) ∧ wx.cell? ⟨b, off + j * 4 + 3, none⟩ = some (.int .i64 ss[j].b)) := by
  rcases h with hI | ⟨b, off, rfl, hb, hc⟩
  · rw [hI] at hj; simp at hj
  · have key : ∀ r, r < 4 → wx.cell? ⟨b, off + j * 4 + r, none⟩ = ss[j].arr[r]? := fun r hr => (bl.cell (p := ⟨b, off + j * 4 + r, none⟩) hb).trans (hc j hj r hr)
    exact ⟨b, off, rfl, key 0 (by omega), key 1 (by omega), key 2 (by omega), key 3 (by omega)⟩
def nsc (words : Int) : Nat := 2 + (words % 8).toNat
theorem nsc_le (words : Int) : 2 ≤ nsc words ∧ nsc words ≤ 9 ∧ ((nsc words : Nat) : Int) = 2 + words % 8 := by
  have h3 := Int.emod_nonneg words (b := 8) (by omega)
  have h4 := Int.emod_lt_of_pos words (b := 8) (by omega)
  unfold nsc
  omega
theorem modn (z : Int) (n : Nat) (h : 0 < n) : ∃ e : Nat, e < n ∧ z % (n : Int) = (e : Int) := by
  have h3 := Int.emod_nonneg z (b := (n : Int)) (by omega)
  have h4 := Int.emod_lt_of_pos z (b := (n : Int)) (by omega)
  exact ⟨(z % (n : Int)).toNat, by omega, by omega⟩
theorem next_ne {a n : Nat} (ha : a < n) (hn : 2 ≤ n) : ∃ e : Nat, e < n ∧ a ≠ e ∧ ((a : Int) + 1) % (n : Int) = (e : Int) := by
  by_cases h : a + 1 = n
  · refine ⟨0, by omega, by omega, ?_⟩
    rw [show (a : Int) + 1 = (n : Int) by omega, Int.emod_self]; rfl
  · refine ⟨a + 1, by omega, by omega, ?_⟩
    rw [Int.emod_eq_of_lt (by omega) (by omega)]; rfl
theorem wsucC (k : Nat) (h : k < 1999999999999) : wrap64 ((k : Int) + 1) = (k : Int) + 1 := by unfold wrap64; omega
set_option maxRecDepth 100000 in
set_option maxHeartbeats 4000000 in
theorem script_walk (wd z1 z2 : Int) (a : Option Addr) (cap : Nat) (ss : List S4) (w : World) (hI : Ss4 w a ss) (hl : ss.length ≤ 1048576) :
    Calls Try.prog 5 #[.int .i64 wd, .int .i64 z1, .int .i64 z2, .slice a ss.length cap] w fun e w' => e = .returned (.bool true) ∧ Below w.heap.size w w' := by
  obtain ⟨n1, n2, n3⟩ := nsc_le wd
  have Hp := hide' (pick_big wd 8 w (by omega) (by omega))
  have hb1 := Int.emod_nonneg wd (b := 8) (by omega)
  have hb2 := Int.emod_lt_of_pos wd (b := 8) (by omega)
  have N3 := hide' n3
  have HN12 := hide' (And.intro n1 n2)
  clear n3
  generalize nsc wd = n at *
  generalize hm : wd % 8 = m at *
  have hb1' : 0 ≤ m := hb1
  clear hm
  obtain ⟨nx, hnx, enx⟩ := modn z1 n (by omega)
  obtain ⟨sv0, hsv0, esv⟩ := modn z2 n (by omega)
  have Hp1 := hide' (pick_big z1 (n : Int) w (by omega) (by omega))
  have Hp2 := hide' (pick_big z2 (n : Int) w (by omega) (by omega))
  rw [enx] at Hp1
  rw [esv] at Hp2
  have HI := hide' hI
  have HL := hide' hl
  have H1 := hide' (M.new_any n w (by omega) (by omega) _ rfl)
  have H2 := hide' (fun w => F.new_any n w (by omega) (by omega) _ rfl)
  clear hI hl enx esv n1 n2
  by_cases hab : nx = sv0
  · subst hab
    obtain ⟨sv, hsv, hne, enn⟩ := next_ne hnx (show 2 ≤ n from HN12.out.1)
    obtain ⟨i1, hi1⟩ : ∃ i1, i1 = nx + 1 := ⟨_, rfl⟩
    have Hp3 : Hid (Calls Try.prog 13 #[.int .i64 (i1 : Nat), .int .i64 (n : Nat)] w fun e w' => e = .returned (.int .i64 (sv : Nat)) ∧ w' = w) := hide' (by have := pick_big ((i1 : Nat) : Int) (n : Int) w (by have := HN12.out; omega) (by have := HN12.out; omega); rw [show ((i1 : Nat) : Int) = (nx : Int) + 1 by omega, enn] at this; rw [show ((i1 : Nat) : Int) = (nx : Int) + 1 by omega]; exact this)
    have hwi : wrap64 ((nx : Int) + 1) = (i1 : Int) := by rw [wsucC nx (by have := HN12.out; omega)]; omega
    have HG := hide' (And.intro hnx (And.intro hsv hne))
    clear hi1 enn hnx hsv hne hsv0
    go_enter Try.func5, Try.ntmps5
    go_wp2_with fail
    refine Hp.out.mono ?_
    rintro e wa ⟨rfl, hwa⟩
    replace hwa := hwa.symm
    subst hwa
    clear Hp
    go_wp2_with fail
    rw [← N3.out]
    clear N3 hb1 hb2 hb1'
    refine Hp1.out.mono ?_
    rintro e wa ⟨rfl, hwa⟩
    replace hwa := hwa.symm
    subst hwa
    clear Hp1
    go_wp2_with fail
    refine Hp2.out.mono ?_
    rintro e wa ⟨rfl, hwa⟩
    replace hwa := hwa.symm
    subst hwa
    clear Hp2
    go_wp2_with fail
    refine Hp3.out.mono ?_
    rintro e wc ⟨rfl, hwc⟩
    replace hwc := hwc.symm
    subst hwc
    clear Hp3 hwi
    go_wp2_with fail
    refine H1.out.mono ?_
    rintro e w1 ⟨x, rfl, D, h1, b1⟩
    have J1 := hide' (And.intro h1 b1)
    clear H1 h1 b1
    go_wp2_with fail
    refine (H2.out w1).mono ?_
    rintro e w2 ⟨y, rfl, R, h2, b2⟩
    have J2 := hide' (And.intro h2 b2)
    have m2 := J1.out.1.below b2
    have C3 := hide' ((lnew_ok nx sv m2 (by simpa using HG.out.1) (by simpa using HG.out.2.1) HG.out.2.2).mono (fun e w' ⟨q1, q2⟩ => (And.intro q1 (hide' q2))))
    clear H2 h2 b2 m2
    go_wp2_with fail
    refine C3.out.mono ?_
    rintro e w3 ⟨rfl, hw3⟩
    have t3 : Below w2.heap.size w2 w3 := by rw [hw3.out]; exact (Below.refl _ _).alloc (Nat.le_refl _) _
    have m3 := (J1.out.1.below J2.out.2).below t3
    have C4 := hide' ((lnew_ok nx sv m3 (by simpa using HG.out.1) (by simpa using HG.out.2.1) HG.out.2.2).mono (fun e w' ⟨q1, q2⟩ => (And.intro q1 (hide' q2))))
    have r3 := hide' (J2.out.1.below t3)
    clear C3 t3 m3
    go_wp2_with fail
    refine C4.out.mono ?_
    rintro e w4 ⟨rfl, hw4⟩
    have t4 : Below w3.heap.size w3 w4 := by rw [hw4.out]; exact (Below.refl _ _).alloc (Nat.le_refl _) _
    have C5 := hide' ((rnew_ok nx sv (r3.out.below t4) (by simpa using HG.out.1) (by simpa using HG.out.2.1) HG.out.2.2).mono (fun e w' ⟨q1, q2⟩ => (And.intro q1 (hide' q2))))
    clear C4 t4 r3
    go_wp2_with fail
    refine C5.out.mono ?_
    rintro e w5 ⟨rfl, hw5⟩
    clear C5
    have S0 := hide' (Sn.start J1.out.1 J1.out.2 J2.out.1 J2.out.2 hw3.out hw4.out hw5.out)
    clear J1 J2 hw3 hw4 hw5
    generalize w2.heap.size = l1 at *
    generalize w3.heap.size = l2 at *
    generalize w4.heap.size = k at *
    have hsz : ∀ o, (w5.alloc o).heap.size = w5.heap.size + 1 := fun o => by simp
    go_wp2_with fail
    clear hsz
    generalize (w5.alloc (.cells #[.pointer (some ⟨l1, 0, none⟩), .pointer (some ⟨l2, 0, none⟩)] 26)).alloc (.cells #[.pointer (some ⟨x, 0, none⟩), .slice (some ⟨w5.heap.size, 0, none⟩) 2 2, .slice none 0 0, .pointer (some ⟨y, 0, none⟩), .pointer (some ⟨k, 0, none⟩), .slice none 0 0] 49) = W0 at *
    obtain ⟨lb, hlb⟩ : ∃ lb, w5.heap.size = lb := ⟨_, rfl⟩
    obtain ⟨s, hs⟩ : ∃ s, lb + 1 = s := ⟨_, rfl⟩
    rw [hlb, hs] at S0 ⊢
    clear hlb hs
    go_loopw [23] (fun i wx => ∃ K : Nat, K ≤ ss.length ∧ i = .int .i64 (K : Int) ∧ Sn w n x y s lb l1 l2 k nx sv K wx) (fun i _ => ss.length - (intOf i).toNat)
    case atStart => exact ⟨0, by omega, rfl, S0.out⟩
    case round => as_aux_lemma =>
      obtain ⟨K, hk, rfl, hS⟩ := hrel
      have HSk := hide' hS
      by_cases hlt : K < ss.length
      · obtain ⟨ab, off, rfl, c0, c1, c2, c3⟩ := s4_cells HI.out HSk.out.1 hlt
        have hlt' : (K : Int) < (ss.length : Int) := by omega
        have HC := hide' (sc_all ss[K] HSk.out (by have := HL.out; omega) HG.out.2.1)
        have Hwk := hide' (wsucC K (by have := HL.out; omega))
        generalize (ss[K]).d = vd at *
        generalize (ss[K]).n = vn at *
        generalize (ss[K]).a = va at *
        generalize (ss[K]).b = vb at *
        clear hS
        go_wp2_with fail
        refine HC.out.mono ?_
        rintro e we ⟨rfl, hS'⟩
        have Sk' := hide' hS'
        clear hS' HC c0 c1 c2 c3
        go_wp2
        exact ⟨⟨K + 1, hlt, by rw [Hwk.out]; go_num, Sk'.out⟩, msr' hlt _ Hwk.out⟩
      · obtain rfl : K = ss.length := by omega
        obtain ⟨bel, U, ws, tr, bad, ps, wo, wc, qo, qc, hP, hn, htr, hps, hX⟩ := hS
        obtain ⟨D, R, hM, hR, hdis, hU⟩ := hP
        have HT := hide' (M.trace_any hM (by have := HL.out; omega))
        have HR := hide' (And.intro hR (And.intro bel (show tr.length < 2000000000000 by have := HL.out; omega)))
        clear bel hM hR hdis hU hn htr hps hX
        go_wp2_with fail
        refine HT.out.mono ?_
        rintro e wf ⟨ro, rc, rfl, hr1, bf⟩
        have HR2 := hide' (F.trace_any (HR.out.1.below bf))
        have HA := hide' (And.intro (acs_row hr1) bf)
        clear HT hr1 bf
        go_wp2_with fail
        refine HR2.out.mono ?_
        rintro e wg ⟨ro2, rc2, rfl, hr2, hwg⟩
        replace hwg := hwg.symm
        subst hwg
        have HE := hide' (entries_eq tr ro ro2 rc rc2 wf HA.out.1 (acs_row hr2) HR.out.2.2)
        clear HR2 hr2
        go_wp2_with fail
        refine HE.out.mono ?_
        rintro e wh ⟨rfl, nn, hwh⟩
        have F := hide' (show Below w.heap.size w wh by rw [hwh]; exact ((HR.out.2.1.trans (HA.out.2.mono HR.out.2.1.size))).trans ⟨rfl, rfl, rfl, Nat.le_refl _, fun _ _ => rfl⟩)
        clear HE HA HR hwh
        go_wp2
        go_ret
        exact ⟨rfl, F.out⟩
  · obtain ⟨sv, rfl⟩ : ∃ sv, sv0 = sv := ⟨_, rfl⟩
    have dab : ((nx : Int) == (sv0 : Int)) = false := by rw [beq_eq_false_iff_ne]; omega
    have HG := hide' (And.intro hnx (And.intro hsv0 hab))
    clear hnx hsv0 hab
    go_enter Try.func5, Try.ntmps5
    go_wp2_with fail
    refine Hp.out.mono ?_
    rintro e wa ⟨rfl, hwa⟩
    replace hwa := hwa.symm
    subst hwa
    clear Hp
    go_wp2_with fail
    rw [← N3.out]
    clear N3 hb1 hb2 hb1'
    refine Hp1.out.mono ?_
    rintro e wa ⟨rfl, hwa⟩
    replace hwa := hwa.symm
    subst hwa
    clear Hp1
    go_wp2_with fail
    refine Hp2.out.mono ?_
    rintro e wa ⟨rfl, hwa⟩
    replace hwa := hwa.symm
    subst hwa
    clear Hp2
    go_wp2_with fail
    refine H1.out.mono ?_
    rintro e w1 ⟨x, rfl, D, h1, b1⟩
    have J1 := hide' (And.intro h1 b1)
    clear H1 h1 b1
    go_wp2_with fail
    refine (H2.out w1).mono ?_
    rintro e w2 ⟨y, rfl, R, h2, b2⟩
    have J2 := hide' (And.intro h2 b2)
    have m2 := J1.out.1.below b2
    have C3 := hide' ((lnew_ok nx sv0 m2 (by simpa using HG.out.1) (by simpa using HG.out.2.1) HG.out.2.2).mono (fun e w' ⟨q1, q2⟩ => (And.intro q1 (hide' q2))))
    clear H2 h2 b2 m2
    go_wp2_with fail
    refine C3.out.mono ?_
    rintro e w3 ⟨rfl, hw3⟩
    have t3 : Below w2.heap.size w2 w3 := by rw [hw3.out]; exact (Below.refl _ _).alloc (Nat.le_refl _) _
    have m3 := (J1.out.1.below J2.out.2).below t3
    have C4 := hide' ((lnew_ok nx sv0 m3 (by simpa using HG.out.1) (by simpa using HG.out.2.1) HG.out.2.2).mono (fun e w' ⟨q1, q2⟩ => (And.intro q1 (hide' q2))))
    have r3 := hide' (J2.out.1.below t3)
    clear C3 t3 m3
    go_wp2_with fail
    refine C4.out.mono ?_
    rintro e w4 ⟨rfl, hw4⟩
    have t4 : Below w3.heap.size w3 w4 := by rw [hw4.out]; exact (Below.refl _ _).alloc (Nat.le_refl _) _
    have C5 := hide' ((rnew_ok nx sv0 (r3.out.below t4) (by simpa using HG.out.1) (by simpa using HG.out.2.1) HG.out.2.2).mono (fun e w' ⟨q1, q2⟩ => (And.intro q1 (hide' q2))))
    clear C4 t4 r3
    go_wp2_with fail
    refine C5.out.mono ?_
    rintro e w5 ⟨rfl, hw5⟩
    clear C5
    have S0 := hide' (Sn.start J1.out.1 J1.out.2 J2.out.1 J2.out.2 hw3.out hw4.out hw5.out)
    clear J1 J2 hw3 hw4 hw5
    generalize w2.heap.size = l1 at *
    generalize w3.heap.size = l2 at *
    generalize w4.heap.size = k at *
    have hsz : ∀ o, (w5.alloc o).heap.size = w5.heap.size + 1 := fun o => by simp
    go_wp2_with fail
    clear hsz
    generalize (w5.alloc (.cells #[.pointer (some ⟨l1, 0, none⟩), .pointer (some ⟨l2, 0, none⟩)] 26)).alloc (.cells #[.pointer (some ⟨x, 0, none⟩), .slice (some ⟨w5.heap.size, 0, none⟩) 2 2, .slice none 0 0, .pointer (some ⟨y, 0, none⟩), .pointer (some ⟨k, 0, none⟩), .slice none 0 0] 49) = W0 at *
    obtain ⟨lb, hlb⟩ : ∃ lb, w5.heap.size = lb := ⟨_, rfl⟩
    obtain ⟨s, hs⟩ : ∃ s, lb + 1 = s := ⟨_, rfl⟩
    rw [hlb, hs] at S0 ⊢
    clear hlb hs
    go_loopw [23] (fun i wx => ∃ K : Nat, K ≤ ss.length ∧ i = .int .i64 (K : Int) ∧ Sn w n x y s lb l1 l2 k nx sv0 K wx) (fun i _ => ss.length - (intOf i).toNat)
    case atStart => exact ⟨0, by omega, rfl, S0.out⟩
    case round => as_aux_lemma =>
      obtain ⟨K, hk, rfl, hS⟩ := hrel
      have HSk := hide' hS
      by_cases hlt : K < ss.length
      · obtain ⟨ab, off, rfl, c0, c1, c2, c3⟩ := s4_cells HI.out HSk.out.1 hlt
        have hlt' : (K : Int) < (ss.length : Int) := by omega
        have HC := hide' (sc_all ss[K] HSk.out (by have := HL.out; omega) HG.out.2.1)
        have Hwk := hide' (wsucC K (by have := HL.out; omega))
        generalize (ss[K]).d = vd at *
        generalize (ss[K]).n = vn at *
        generalize (ss[K]).a = va at *
        generalize (ss[K]).b = vb at *
        clear hS
        go_wp2_with fail
        refine HC.out.mono ?_
        rintro e we ⟨rfl, hS'⟩
        have Sk' := hide' hS'
        clear hS' HC c0 c1 c2 c3
        go_wp2
        exact ⟨⟨K + 1, hlt, by rw [Hwk.out]; go_num, Sk'.out⟩, msr' hlt _ Hwk.out⟩
      · obtain rfl : K = ss.length := by omega
        obtain ⟨bel, U, ws, tr, bad, ps, wo, wc, qo, qc, hP, hn, htr, hps, hX⟩ := hS
        obtain ⟨D, R, hM, hR, hdis, hU⟩ := hP
        have HT := hide' (M.trace_any hM (by have := HL.out; omega))
        have HR := hide' (And.intro hR (And.intro bel (show tr.length < 2000000000000 by have := HL.out; omega)))
        clear bel hM hR hdis hU hn htr hps hX
        go_wp2_with fail
        refine HT.out.mono ?_
        rintro e wf ⟨ro, rc, rfl, hr1, bf⟩
        have HR2 := hide' (F.trace_any (HR.out.1.below bf))
        have HA := hide' (And.intro (acs_row hr1) bf)
        clear HT hr1 bf
        go_wp2_with fail
        refine HR2.out.mono ?_
        rintro e wg ⟨ro2, rc2, rfl, hr2, hwg⟩
        replace hwg := hwg.symm
        subst hwg
        have HE := hide' (entries_eq tr ro ro2 rc rc2 wf HA.out.1 (acs_row hr2) HR.out.2.2)
        clear HR2 hr2
        go_wp2_with fail
        refine HE.out.mono ?_
        rintro e wh ⟨rfl, nn, hwh⟩
        have F := hide' (show Below w.heap.size w wh by rw [hwh]; exact ((HR.out.2.1.trans (HA.out.2.mono HR.out.2.1.size))).trans ⟨rfl, rfl, rfl, Nat.le_refl _, fun _ _ => rfl⟩)
        clear HE HA HR hwh
        go_wp2
        go_ret
        exact ⟨rfl, F.out⟩
end C
end Go.Proofs.Ytnpdmeeolcjmlaa
