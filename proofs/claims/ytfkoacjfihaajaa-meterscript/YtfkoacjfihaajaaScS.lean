import Derived.Test.YtfkoacjfihaajaaScR
set_option linter.unusedVariables false
set_option linter.unusedSimpArgs false
namespace Go.Proofs.Ytfkoacjfihaajaa
open Go.RowKit
namespace M
open Fl
def PB (cm cr : Nat) (ao : Option Addr) (j : Nat) : Prop := j = cm ∨ RB cr ao j
/-- a meter of the program's and one of the document's -/
structure Pr (B cm cr h l : Nat) (ao : Option Addr) (cap : Nat) (ns : List Nt) (w : World) : Prop where
  mt : Mt cm h l (st h ns).r w
  rm : Rm B cr h ao cap ns w
  up : Up l ns
  bm : B ≤ cm
  br : B ≤ cr
  hh : 1 ≤ h
variable {w w' : World} {B cm cr h l cap : Nat} {ns : List Nt} {ao : Option Addr}
theorem At_kind (q : Rm B cr h ao cap ns w) {j : Nat} (hj : At ao j) : ∃ cs, w.heap[j]? = some (.cells cs 76 (0, 0)) := by
  obtain ⟨ad, rfl, rfl⟩ := hj
  rcases q.row.row.2 with ⟨hv, _⟩ | ⟨g', cap', cur, hv, hb, hg, _⟩
  · cases hv
  · simp only [Value.slice.injEq, Option.some.injEq] at hv
    obtain ⟨rfl, _, _⟩ := hv
    exact ⟨cur, hg⟩
theorem Pr.m_r (p : Pr B cm cr h l ao cap ns w) : cm ≠ cr := cells_ne p.mt p.rm.hp (by decide)
theorem Pr.m_a (p : Pr B cm cr h l ao cap ns w) : ¬ At ao cm := fun q => by
  obtain ⟨cs, e⟩ := At_kind p.rm q
  exact cells_ne p.mt e (by decide) rfl
theorem Pr.kept {S : Nat → Prop} (p : Pr B cm cr h l ao cap ns w) (t : Turn S w w') (hn : ∀ j, PB cm cr ao j → ¬ S j) : Pr B cm cr h l ao cap ns w' :=
  ⟨p.mt.kept t (hn _ (.inl rfl)), ⟨(t.block cr p.rm.lt (hn _ (.inr (.inl rfl)))).trans p.rm.hp, p.rm.row.kept t (fun g hg => hn g (.inr (.inr (own_at hg))))⟩, p.up, p.bm, p.br, p.hh⟩
theorem Pr.below (p : Pr B cm cr h l ao cap ns w) (b : Below w.heap.size w w') : Pr B cm cr h l ao cap ns w' := ⟨p.mt.below b, p.rm.below b, p.up, p.bm, p.br, p.hh⟩
theorem Pr.lt (p : Pr B cm cr h l ao cap ns w) {j : Nat} (hj : PB cm cr ao j) : B ≤ j ∧ j < w.heap.size := by
  rcases hj with rfl | rfl | hj
  · exact ⟨p.bm, p.mt.lt⟩
  · exact ⟨p.br, p.rm.lt⟩
  · obtain ⟨cs, e⟩ := At_kind p.rm hj
    refine ⟨?_, lt_of_heap e⟩
    obtain ⟨ao', cap', e', _, _, hB⟩ := p.rm.row.form
    cases e'
    exact hB j hj
/-- what a call leaves of a pair -/
def PT (B cm cr h : Nat) (ao : Option Addr) (ns : List Nt) (w w' : World) : Prop := ∃ l' ao' cap' ns', Pr B cm cr h l' ao' cap' ns' w' ∧ Turn (PB cm cr ao) w w' ∧ (∀ j, PB cm cr ao' j → PB cm cr ao j ∨ w.heap.size ≤ j) ∧ ns'.length ≤ ns.length + 1
theorem PT.same (p : Pr B cm cr h l ao cap ns w) (b : Below w.heap.size w w') : PT B cm cr h ao ns w w' := ⟨l, ao, cap, ns, p.below b, turn_below b, fun j hj => .inl hj, by omega⟩
/-- a box with what is asked -/
def Bx (bx : Nat) (d t n : Int) (w : World) : Prop := w.heap[bx]? = some (.cells #[.int .i64 d, .int .i64 t, .int .i64 n] 37 (0, 0))
theorem Bx.c0 {bx : Nat} {d t n : Int} (q : Bx bx d t n w) : w.cell? ⟨bx, 0, none⟩ = some (.int .i64 d) := by rw [Lib.cell_of_heap q]; rfl
theorem Bx.c1 {bx : Nat} {d t n : Int} (q : Bx bx d t n w) : w.cell? ⟨bx, 1, none⟩ = some (.int .i64 t) := by rw [Lib.cell_of_heap q]; rfl
theorem Bx.c2 {bx : Nat} {d t n : Int} (q : Bx bx d t n w) : w.cell? ⟨bx, 2, none⟩ = some (.int .i64 n) := by rw [Lib.cell_of_heap q]; rfl
/-- the two notes, one behind the other -/
theorem notes (p : Pr B cm cr h l ao cap ns w) (t n : Int) (ht : -9223372036854775808 ≤ t ∧ t ≤ 9223372036854775807) (hn : -9223372036854775808 ≤ n ∧ n ≤ 9223372036854775807) (hl : ns.length ≤ 6000000000000) :
    ∃ v : Int, Calls Try.prog 17 #[.pointer (some ⟨cm, 0, none⟩), .int .i64 t, .int .i64 n] w fun e w1 => e = .returned (.int .i64 v) ∧ Turn (fun j => j = cm) w w1 ∧ (Calls Try.prog 35 #[.pointer (some ⟨cr, 0, none⟩), .int .i64 t, .int .i64 n] w1 fun e w2 => e = .returned (.int .i64 v) ∧ PT B cm cr h ao ns w w2) := by
  by_cases h0 : t < 0 ∨ ¬ t < 0 ∧ n < 0
  · refine ⟨3, ?_⟩
    have k2 : ∀ w1, w1 = w → Calls Try.prog 35 #[.pointer (some ⟨cr, 0, none⟩), .int .i64 t, .int .i64 n] w1 fun e w2 => e = .returned (.int .i64 3) ∧ PT B cm cr h ao ns w w2 := fun w1 e1 => by
      subst e1
      exact (rnote_neg _ _ h0).mono (fun e w2 ⟨a, b⟩ => ⟨a, by rw [b]; exact PT.same p (Below.refl _ _)⟩)
    by_cases hn0 : n < 0
    · exact (note_neg _ _ w hn0).mono (fun e w1 ⟨a, b⟩ => ⟨a, by rw [b]; exact Turn.refl _ _, k2 w1 b⟩)
    · exact (note_neg2 p.mt (by omega) (by omega)).mono (fun e w1 ⟨a, b⟩ => ⟨a, by rw [b]; exact Turn.refl _ _, k2 w1 b⟩)
  · obtain ⟨T, rfl⟩ : ∃ T : Nat, t = (T : Int) := ⟨t.toNat, by omega⟩
    obtain ⟨N, rfl⟩ : ∃ N : Nat, n = (N : Int) := ⟨n.toNat, by omega⟩
    by_cases hT : T < l
    · refine ⟨1, (note_early p.mt (by omega) hT).mono (fun e w1 ⟨a, b⟩ => ⟨a, by rw [b]; exact Turn.refl _ _, ?_⟩)⟩
      subst b
      exact (rnote_early p.rm p.up (by omega) hT).mono (fun e w2 ⟨a, k, b⟩ => ⟨a, by rw [b]; exact PT.same p (below_drewN _ _)⟩)
    · have hok := p.up.ok (h := h) (by omega)
      obtain ⟨a1, a2⟩ := hok.note (k := T / h - l / h) (n := N) (by omega) (by omega)
      refine ⟨0, (note_ok (n := N) (now := T) p.mt (by omega) p.hh hok.lt (by omega) a1).mono (fun e w1 ⟨a, m1, t1⟩ => ⟨a, t1, ?_⟩)⟩
      have p1 : Rm B cr h ao cap ns w1 := ⟨(t1.block cr p.rm.lt (fun q => p.m_r q.symm)).trans p.rm.hp, p.rm.row.kept t1 (fun g hg q => p.m_a (by rw [← q]; exact own_at hg))⟩
      refine (rnote_ok (now := T) (n := N) p1 p.up hl (by omega) p.br).mono (fun e w2 ⟨a, g, cap', r2, t2, g2⟩ => ⟨a, T, some ⟨g, 0, none⟩, cap', ns ++ [(T, N)], ⟨?_, r2, Up.add (x := (T, N)) p.up (by show l ≤ T; omega) (by show T < 9223372036854775808; omega) (by show N < 9223372036854775808; omega), p.bm, p.br, p.hh⟩, ?_, ?_, ?_⟩)
      · have hs : (st h (ns ++ [(T, N)])).r = ad (hvn (T / h - l / h) (st h ns).r) N := by rw [st_add, stp_snd, p.up.last]
        rw [hs]
        exact m1.kept t2 (fun q => by
          rcases q with q | q
          · exact p.m_r q
          · exact p.m_a q)
      · exact (t1.mono (S' := PB cm cr ao) (fun k _ hk => .inl hk)).then (t2.mono (S' := PB cm cr ao) (fun k _ hk => .inr hk)) (fun i _ hi => hi)
      · intro j hj
        rcases hj with hj | hj | hj
        · exact .inl (.inl hj)
        · exact .inl (.inr (.inl hj))
        · obtain ⟨ad, e1, e2⟩ := hj
          cases e1
          replace e2 : j = g := e2
          rcases g2 with g2 | g2
          · exact .inl (.inr (.inr (by rw [e2]; exact g2)))
          · exact .inr (by rw [e2]; exact Nat.le_trans t1.size g2)
      · rw [List.length_append]; simp
/-- the two rates -/
theorem rates (p : Pr B cm cr h l ao cap ns w) (t : Int) (ht : -9223372036854775808 ≤ t ∧ t ≤ 9223372036854775807) (hl : ns.length ≤ 6000000000000) :
    ∃ (x : Nat) (v : Int), FloatKind.f64.format.order x x = some .eq ∧ (∀ w1, Below w.heap.size w w1 → Calls Try.prog 18 #[.pointer (some ⟨cm, 0, none⟩), .int .i64 t] w1 fun e w2 => e = .returned (.tuple #[.float .f64 x, .int .i64 v]) ∧ ∃ k, w2 = w1.drewN k) ∧ (∀ w1, Below w.heap.size w w1 → Calls Try.prog 36 #[.pointer (some ⟨cr, 0, none⟩), .int .i64 t] w1 fun e w2 => e = .returned (.tuple #[.float .f64 x, .int .i64 v]) ∧ Below w1.heap.size w1 w2) := by
  by_cases h0 : t < 0
  · exact ⟨0, 3, order_self (by omega), fun w1 _ => (rate_neg _ w1 h0).mono (fun e w2 ⟨a, b⟩ => ⟨a, 0, b⟩), fun w1 _ => (rrate_neg _ w1 h0).mono (fun e w2 ⟨a, b⟩ => ⟨a, by rw [b]; exact Below.refl _ _⟩)⟩
  · obtain ⟨T, rfl⟩ : ∃ T : Nat, t = (T : Int) := ⟨t.toNat, by omega⟩
    by_cases hT : T < l
    · exact ⟨0, 1, order_self (by omega), fun w1 b1 => (rate_early (p.mt.below b1) hT).mono (fun e w2 ⟨a, b⟩ => ⟨a, 0, b⟩), fun w1 b1 => (rrate_early (p.rm.below b1) p.up (by omega) hT).mono (fun e w2 ⟨a, k, b⟩ => ⟨a, by rw [b]; exact below_drewN _ _⟩)⟩
    · have hok := p.up.ok (h := h) (by omega)
      exact ⟨_, 0, order_self (hvn_lt hok.lt _), fun w1 b1 => rate_ok (p.mt.below b1) (by omega) p.hh hok.lt (by omega), fun w1 b1 => rrate_ok (p.rm.below b1) p.up (by omega) (by omega) p.hh (by omega)⟩
set_option maxRecDepth 100000 in
set_option maxHeartbeats 4000000 in
theorem step_any (p : Pr B cm cr h l ao cap ns w) (x : S3) (ht : -9223372036854775808 ≤ x.t ∧ x.t ≤ 9223372036854775807) (hn : -9223372036854775808 ≤ x.n ∧ x.n ≤ 9223372036854775807) (hl : ns.length ≤ 6000000000000) :
    Calls Try.prog 20 #[.pointer (some ⟨cm, 0, none⟩), .pointer (some ⟨cr, 0, none⟩), .agg x.arr] w fun e w' => e = .returned (.bool true) ∧ PT B cm cr h ao ns w w' := by
  obtain ⟨d, t, n⟩ := x
  show Calls Try.prog 20 #[.pointer (some ⟨cm, 0, none⟩), .pointer (some ⟨cr, 0, none⟩), .agg #[.int .i64 d, .int .i64 t, .int .i64 n]] w _
  obtain ⟨w1, hw1⟩ : ∃ w1, w1 = w.alloc (.cells #[.int .i64 d, .int .i64 t, .int .i64 n] 37) := ⟨_, rfl⟩
  have b1 : Below w.heap.size w w1 := by rw [hw1]; exact (Below.refl _ _).alloc (Nat.le_refl _) _
  have hbx : Bx w.heap.size d t n w1 := by rw [hw1]; exact heap_alloc_new _ _
  have p1 := p.below b1
  have HW1 := hide' hw1
  clear hw1
  have HB1 := hide' b1
  have HP := hide' p
  obtain ⟨bx, hbxe⟩ : ∃ bx, bx = w.heap.size := ⟨_, rfl⟩
  have HXE := hide' hbxe
  rw [← hbxe] at hbx
  have c0 := hbx.c0
  have c1 := hbx.c1
  have c2 := hbx.c2
  by_cases hd1 : d = 1
  · obtain ⟨v, hN⟩ := notes (p1.below (Below.refl _ _).drew) t n ht hn hl
    subst hd1
    have HN := hide' hN
    have HD : Hid (∀ w3, Turn (fun j => j = cm) w1.drew w3 → w3.cell? ⟨bx, 1, none⟩ = some (.int .i64 t) ∧ w3.cell? ⟨bx, 2, none⟩ = some (.int .i64 n)) := hide' (fun w3 t3 => by
      have hb3 : Bx bx 1 t n w3 := (t3.block bx (lt_of_heap hbx) (fun q => by have := HP.out.mt.lt; have := HXE.out; omega)).trans hbx
      exact ⟨hb3.c1, hb3.c2⟩)
    have HE : Hid (∀ w4, PT B cm cr h ao ns w1.drew w4 → PT B cm cr h ao ns w w4) := hide' (fun w4 ⟨l', ao', cap', ns', q1, q2, q3, q4⟩ => ⟨l', ao', cap', ns', q1, (turn_below (b1.drew)).then q2 (fun _ _ q => q), fun j hj => by
      rcases q3 j hj with q | q
      · exact .inl q
      · exact .inr (Nat.le_trans b1.size q), q4⟩)
    have HD2 : Hid (∀ w3, PT B cm cr h ao ns w1.drew w3 → w3.cell? ⟨bx, 1, none⟩ = some (.int .i64 t) ∧ w3.cell? ⟨bx, 2, none⟩ = some (.int .i64 n)) := hide' (fun w3 ⟨_, _, _, _, _, t3, _, _⟩ => by
      have hb3 : Bx bx 1 t n w3 := (t3.block bx (lt_of_heap hbx) (fun q => by have := (HP.out.lt q).2; have := HXE.out; omega)).trans hbx
      exact ⟨hb3.c1, hb3.c2⟩)
    clear p p1 ht hn hl hN b1 hbx hbxe
    go_enter Try.func20, Try.ntmps20
    go_wp2_with fail
    rw [← HXE.out, ← HW1.out]
    go_region_held3 (fun w' => w'.cell? ⟨bx, 1, none⟩ = some (.int .i64 t) ∧ w'.cell? ⟨bx, 2, none⟩ = some (.int .i64 n)) (first | exact ⟨c1, c2⟩ | exact ⟨k1, k2⟩ | exact ⟨m1, m2⟩) (first | (go_at_call 35; have G := k1; refine C35.out.mono ?_; rintro e w4 ⟨rfl, P4⟩; have H4 := hide' P4; obtain ⟨m1, m2⟩ := HD2.out w4 P4; clear P4) | (go_at_call 17; refine HN.out.mono ?_; rintro e w3 ⟨rfl, t3, C35'⟩; have C35 := hide' C35'; obtain ⟨k1, k2⟩ := HD.out w3 t3; clear t3 C35'))
    rename_i hHeld
    clear hHeld
    go_wp2
    go_ret
    exact ⟨rfl, HE.out _ H4.out⟩
  · by_cases hd2 : d = 2
    · obtain ⟨X, v, ho, hA, hB⟩ := rates p1 t ht hl
      subst hd2
      have HA := hide' hA
      have HB := hide' hB
      have HE := hide' (fun w2 (b : Below w1.heap.size w1 w2) => (show PT B cm cr h ao ns w w2 from PT.same HP.out (HB1.out.trans (b.mono HB1.out.size))))
      have HC := hide' (fun w2 (b : Below w1.heap.size w1 w2) => (b.cell (p := ⟨bx, 1, none⟩) (lt_of_heap hbx)).trans hbx.c1)
      clear p p1 ht hn hl hA hB b1 hd1 hbx hbxe
      go_enter Try.func20, Try.ntmps20
      go_wp2_with fail
      rw [← HXE.out, ← HW1.out]
      refine (HA.out _ (Below.refl _ _)).mono ?_
      rintro e w2 ⟨rfl, k2, rfl⟩
      have cc1 := HC.out _ (below_drewN w1 k2)
      go_wp2_with fail
      refine (HB.out _ (below_drewN w1 k2)).mono ?_
      rintro e w3 ⟨rfl, b3⟩
      have H3 := hide' (HE.out w3 ((below_drewN w1 k2).trans (b3.mono (Nat.le_refl _))))
      clear b3 HA HB HE HC
      go_wp2
      go_ret
      exact ⟨rfl, H3.out⟩
    · have e1 : (d == 1) = false := by simp [hd1]
      have e2 : (d == 2) = false := by simp [hd2]
      have HE := hide' (show PT B cm cr h ao ns w w1 from PT.same HP.out HB1.out)
      clear p p1 ht hn hl b1 hbx hbxe
      go_enter Try.func20, Try.ntmps20
      go_wp2
      go_ret
      exact ⟨rfl, by rw [← HW1.out]; exact HE.out⟩
end M
end Go.Proofs.Ytfkoacjfihaajaa
