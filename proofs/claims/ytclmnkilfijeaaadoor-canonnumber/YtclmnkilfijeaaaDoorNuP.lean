import Derived.Test.YtclmnkilfijeaaaDoorNuO
set_option linter.unusedVariables false
set_option linter.unusedSimpArgs false
namespace Go.Proofs.YtclmnkilfijeaaaDoor
open Go.RowKit
/-- what is known of the decimal d over 10^k that is told of r -/
def Res (r d k : Nat) : Prop := d < 10 ^ k ∧ ∀ n t k', d = n * 10 ^ t → k = k' + t → n % 10 ≠ 0 → (k' ≤ 9 → Fp.Means r k' n) ∧ (∀ j m, Fp.Means r j m → j = k' ∧ m = n)
theorem res_small {r o u1 u2 u3 p s e : Nat} (h0 : 0 < r) (hr : r < 988 * 4503599627370496 + 4503599627370496) (hs : s ≤ 60) (ho : o ≤ 1) (hp : 1 ≤ p) (h1 : u1 < 2 ^ (64 - s)) (h2 : u2 < 2 ^ (64 - s)) (h3 : u3 < 2 ^ (64 - s)) (hv : 2 ^ (62 - s) * 2 ^ e ≤ 10 ^ p) (he : 30 ≤ e) :
    Res r (Fp.pickU o u1 u2 u3 p).1 (Fp.pickU o u1 u2 u3 p).2 := by
  obtain ⟨b1, b2⟩ := Fp.pickU_le (um := u3) hs ho hp h1 h2 h3
  refine ⟨?_, fun n t k' hd hk hn => ⟨fun h9 => ?_, fun j m hm => ?_⟩⟩
  · generalize (Fp.pickU o u1 u2 u3 p).1 = d at *
    generalize (Fp.pickU o u1 u2 u3 p).2 = k at *
    have hkp : k ≤ p := by omega
    have e2 : 10 ^ p = 10 ^ k * 10 ^ (p - k) := by rw [← Nat.pow_add, show k + (p - k) = p by omega]
    have e3 : 2 ^ (62 - s) < 10 ^ p := by
      refine Nat.lt_of_lt_of_le ?_ hv
      have q : 2 ^ (62 - s) * 1 < 2 ^ (62 - s) * 2 ^ e := (Nat.mul_lt_mul_left (Nat.two_pow_pos _)).2 (Nat.one_lt_two_pow (by omega))
      rw [Nat.mul_one] at q
      exact q
    have : d * 10 ^ (p - k) < 10 ^ k * 10 ^ (p - k) := by rw [← e2]; omega
    exact Nat.lt_of_mul_lt_mul_right this
  · have := Fp.small_long (n := n) (t := t) (k := k') hs ho hp h1 h2 h3 hv he hd hk (by intro q; rw [q] at hn; exact hn rfl)
    omega
  · exact absurd hm.2.2.2.2.2 (Fp.small_none hr h0 hm.2.1)
theorem res_near {r o Nmin Nmax Nm G p : Nat} (g : Fp.Good r o Nmin Nmax Nm G p) (h0 : 0 < r) (h1 : r < Fp.one) (hp : 16 ≤ p) : Res r (Fp.pickD o Nmin Nmax Nm G p).1 (Fp.pickD o Nmin Nmax Nm G p).2 :=
  ⟨Fp.near_below h1 (Nat.pow_pos (by omega)) g.sound, fun n t k' hd hk hn => g.means h0 h1 hp hd hk hn⟩
theorem small_at (a : Nat) (h1 : 87 ≤ a) (h2 : a ≤ 1074) : Fp.smallOk a (Fp.pGen a) = true ∧ Fp.smallOk a (Fp.pPow a) = true := by
  have := (List.all_eq_true.1 Fp.smallOk_all) a (List.mem_range.2 (by omega))
  rw [Bool.or_eq_true, decide_eq_true_eq, Bool.and_eq_true] at this
  rcases this with q | q
  · omega
  · exact q
theorem smallOk_is {a p : Nat} (h : Fp.smallOk a p = true) : 1 ≤ p ∧ p ≤ 340 ∧ Fp.lpN p ≤ a + 4 ∧ a + 8 - Fp.lpN p ≤ 10 ∧ 2 ^ (62 - (a + 8 - Fp.lpN p)) * 2 ^ (a + 11 - 65) ≤ 10 ^ p := by
  unfold Fp.smallOk at h
  simp only [Bool.and_eq_true, decide_eq_true_eq] at h
  exact ⟨h.1.1.1.1, h.1.1.1.2, h.1.1.2, h.1.2, h.2⟩
theorem nearOk_is {a p : Nat} (h : Fp.nearOk a p = true) : Fp.lpN p ≤ a + 4 ∧ a + 8 - Fp.lpN p ≤ 10 := by
  unfold Fp.nearOk at h
  simp only [Bool.and_eq_true, decide_eq_true_eq] at h
  exact ⟨h.1.2, h.2⟩
/-- a normal float below one: what shortFloat tells -/
theorem short_norm (r L c : Nat) (hr : r = L * 4503599627370496 + c) (c1 : 4503599627370496 ≤ c) (c2 : c < 9007199254740992) (hL : L ≤ 1021) :
    ∃ d k, ShortIs (c * 2048) ((L : Int) - 1085) d k ∧ 1 ≤ d ∧ d < 18446744073709551616 ∧ k ≤ 340 ∧ Res r d k := by
  obtain ⟨a, ha⟩ : ∃ a, L + a = 1074 := ⟨1074 - L, by omega⟩
  have hone : r < Fp.one := by rw [hr]; unfold Fp.one; omega
  have h0 : 0 < r := by omega
  have key : ∀ (p o x1 x2 : Nat), p ≤ 340 → 1 ≤ p → Fp.lpN p ≤ a + 4 → a + 8 - Fp.lpN p ≤ 10 → 4611686018427387904 ≤ x1 → x1 < 18446744073709551616 → x2 < 18446744073709551616 → o ≤ 1 →
      1 ≤ (Fp.pickU o (Fp.usc x1 (tH p) (tL p) (a + 8 - Fp.lpN p)) (Fp.usc x2 (tH p) (tL p) (a + 8 - Fp.lpN p)) (Fp.usc (c * 2048) (tH p) (tL p) (a + 8 - Fp.lpN p)) p).1 ∧
      (Fp.pickU o (Fp.usc x1 (tH p) (tL p) (a + 8 - Fp.lpN p)) (Fp.usc x2 (tH p) (tL p) (a + 8 - Fp.lpN p)) (Fp.usc (c * 2048) (tH p) (tL p) (a + 8 - Fp.lpN p)) p).1 < 18446744073709551616 ∧
      (Fp.pickU o (Fp.usc x1 (tH p) (tL p) (a + 8 - Fp.lpN p)) (Fp.usc x2 (tH p) (tL p) (a + 8 - Fp.lpN p)) (Fp.usc (c * 2048) (tH p) (tL p) (a + 8 - Fp.lpN p)) p).2 ≤ 340 := by
    intro p o x1 x2 hp hp1 hlp hs hx1 hx1' hx2 ho
    obtain ⟨hh, hh2, hl⟩ := tOk_bounds p hp
    have u1 := (usc_ge (l := tL p) (s := a + 8 - Fp.lpN p) hx1 hx1' hh hh2 (by omega)).1
    have u3 := (usc_ge (x := c * 2048) (l := tL p) (s := a + 8 - Fp.lpN p) (by omega) (by omega) hh hh2 (by omega)).2 (by omega)
    have b1 := Fp.usc_le x1 (tH p) (tL p) (a + 8 - Fp.lpN p) (by omega) hx1' hh2
    have b2 := Fp.usc_le x2 (tH p) (tL p) (a + 8 - Fp.lpN p) (by omega) hx2 hh2
    have b3 := Fp.usc_le (c * 2048) (tH p) (tL p) (a + 8 - Fp.lpN p) (by omega) (by omega) hh2
    obtain ⟨q1, q2⟩ := Fp.pickU_le (o := o) (p := p) (s := a + 8 - Fp.lpN p) (by omega) ho hp1 b1 b2 b3
    refine ⟨pick_pos u1 u3, ?_, by omega⟩
    have : 2 ^ (62 - (a + 8 - Fp.lpN p)) ≤ 2 ^ 62 := Nat.pow_le_pow_right (by omega) (by omega)
    have e62 : (2 : Nat) ^ 62 = 4611686018427387904 := by decide
    refine Nat.lt_of_le_of_lt (Nat.le_trans (Nat.le_mul_of_pos_right _ (Nat.pow_pos (by omega))) q1) ?_
    omega
  by_cases hc : c = 4503599627370496 ∧ 1 ≤ L
  · obtain ⟨hc, hL1⟩ := hc
    subst hc
    have hpp : (1 ≤ Fp.pPow a ∧ Fp.pPow a ≤ 340) ∧ Fp.lpN (Fp.pPow a) ≤ a + 4 ∧ a + 8 - Fp.lpN (Fp.pPow a) ≤ 10 := by
      by_cases h87 : a < 87
      · have q1 := Fp.pPow_ok a h87 (by omega)
        have q2 := nearOk_is (Fp.nearOk_pow a h87 (by omega))
        exact ⟨⟨by omega, by omega⟩, q2.1, q2.2⟩
      · obtain ⟨q1, q2, q3, q4, _⟩ := smallOk_is (small_at a (by omega) (by omega)).2
        exact ⟨⟨q1, q2⟩, q3, q4⟩
    obtain ⟨⟨hp1, hp⟩, hlp, hs⟩ := hpp
    obtain ⟨hh, hh2, hl⟩ := tOk_bounds _ hp
    obtain ⟨k1, k2, k3⟩ := key (Fp.pPow a) 0 9223372036854775296 9223372036854776832 hp hp1 hlp hs (by omega) (by omega) (by omega) (by omega)
    refine ⟨_, _, fun w hT => ?_, k1, k2, k3, ?_⟩
    · have := short_pow L a (tH (Fp.pPow a)) (tL (Fp.pPow a)) (a + 8 - Fp.lpN (Fp.pPow a)) w ha (by omega) hL1 hp hlp rfl hs hh hh2 hl hT.h3 (hT.pw _ hp)
      rw [show (L : Int) - 1085 = -((a + 11 : Nat) : Int) by omega]
      exact this
    · by_cases h87 : a < 87
      · have q1 := Fp.pPow_ok a h87 (by omega)
        obtain ⟨e1, e2⟩ := tOk_exact (Fp.pPow a) (by omega) (by omega)
        have hn := Fp.nearOk_pow a h87 (by omega)
        rw [e1, e2, Fp.near_usc hn (by omega), Fp.near_usc hn (by omega), Fp.near_usc hn (by omega), ← Fp.pickD_U]
        have g := Fp.good_pow ha (by omega) (by omega)
        rw [← hr] at g
        exact res_near g h0 hone (by omega)
      · obtain ⟨q1, q2, q3, q4, q5⟩ := smallOk_is (small_at a (by omega) (by omega)).2
        exact res_small h0 (by omega) (by omega) (by omega) q1 (Fp.usc_le _ _ _ _ (by omega) (by omega) hh2) (Fp.usc_le _ _ _ _ (by omega) (by omega) hh2) (Fp.usc_le _ _ _ _ (by omega) (by omega) hh2) q5 (by omega)
  · have hc' : c ≠ 4503599627370496 ∨ L = 0 := by omega
    have hpp : (1 ≤ Fp.pGen a ∧ Fp.pGen a ≤ 340) ∧ Fp.lpN (Fp.pGen a) ≤ a + 4 ∧ a + 8 - Fp.lpN (Fp.pGen a) ≤ 10 := by
      by_cases h87 : a < 87
      · have q1 := Fp.pGen_ok a h87 (by omega)
        have q2 := nearOk_is (Fp.nearOk_gen a h87 (by omega))
        exact ⟨⟨by omega, by omega⟩, q2.1, q2.2⟩
      · obtain ⟨q1, q2, q3, q4, _⟩ := smallOk_is (small_at a (by omega) (by omega)).1
        exact ⟨⟨q1, q2⟩, q3, q4⟩
    obtain ⟨⟨hp1, hp⟩, hlp, hs⟩ := hpp
    obtain ⟨hh, hh2, hl⟩ := tOk_bounds _ hp
    obtain ⟨k1, k2, k3⟩ := key (Fp.pGen a) (c % 2) (c * 2048 - 1024) (c * 2048 + 1024) hp hp1 hlp hs (by omega) (by omega) (by omega) (by omega)
    refine ⟨_, _, fun w hT => ?_, k1, k2, k3, ?_⟩
    · have := short_gen L a c (tH (Fp.pGen a)) (tL (Fp.pGen a)) (a + 8 - Fp.lpN (Fp.pGen a)) w ha (by omega) c1 c2 hc' hp hlp rfl hs hh hh2 hl hT.h3 (hT.pw _ hp)
      rw [show (L : Int) - 1085 = -((a + 11 : Nat) : Int) by omega]
      exact this
    · by_cases h87 : a < 87
      · have q1 := Fp.pGen_ok a h87 (by omega)
        obtain ⟨e1, e2⟩ := tOk_exact (Fp.pGen a) (by omega) (by omega)
        have hn := Fp.nearOk_gen a h87 (by omega)
        rw [e1, e2, Fp.near_usc hn (by omega), Fp.near_usc hn (by omega), Fp.near_usc hn (by omega), ← Fp.pickD_U]
        have g := Fp.good_gen ha (by omega) (by omega) (show 4503599627370496 < c by omega) c2
        rw [← hr] at g
        exact res_near g h0 hone (by omega)
      · obtain ⟨q1, q2, q3, q4, q5⟩ := smallOk_is (small_at a (by omega) (by omega)).1
        exact res_small h0 (by omega) (by omega) (by omega) q1 (Fp.usc_le _ _ _ _ (by omega) (by omega) hh2) (Fp.usc_le _ _ _ _ (by omega) (by omega) hh2) (Fp.usc_le _ _ _ _ (by omega) (by omega) hh2) q5 (by omega)
theorem low_pow0 : 2 ^ (55 + 1000) ≤ 10 ^ 324 := by decide +kernel
theorem low_pow (e : Nat) (h : e = 1000) : 2 ^ (55 + e) ≤ 10 ^ 324 := by subst h; exact low_pow0
/-- below the least normal: what shortFloat tells -/
theorem short_sub (r : Nat) (h0 : 0 < r) (hr : r < 4503599627370496) :
    ∃ s0 m d k, 12 ≤ s0 ∧ s0 ≤ 63 ∧ Lib.bitLen r = 64 - s0 ∧ m = r * 2 ^ s0 ∧ m < 18446744073709551616 ∧ ShortIs m (-((1074 + s0 : Nat) : Int)) d k ∧ 1 ≤ d ∧ d < 18446744073709551616 ∧ k ≤ 340 ∧ Res r d k := by
  have l1 := Nat.log2_self_le (show r ≠ 0 by omega)
  have l2 := Nat.lt_log2_self (n := r)
  have l3 : r.log2 < 52 := (Nat.log2_lt (by omega)).2 (by simpa using hr)
  obtain ⟨s0, hs⟩ : ∃ s0, s0 = 63 - r.log2 := ⟨_, rfl⟩
  have hbl : Lib.bitLen r = 64 - s0 := by rw [bitLen_is r r.log2 l1 l2 (by omega)]; omega
  have p0 : 2 ^ r.log2 * 2 ^ s0 = 2 ^ 63 := by rw [← Nat.pow_add, show r.log2 + s0 = 63 by omega]
  have p1 : 2 ^ (r.log2 + 1) * 2 ^ s0 = 2 ^ 64 := by rw [← Nat.pow_add, show r.log2 + 1 + s0 = 64 by omega]
  have e63 : (2 : Nat) ^ 63 = 9223372036854775808 := by decide
  have e64 : (2 : Nat) ^ 64 = 18446744073709551616 := by decide
  obtain ⟨m, hm⟩ : ∃ m, m = r * 2 ^ s0 := ⟨_, rfl⟩
  have m1 : 9223372036854775808 ≤ m := by rw [hm, ← e63, ← p0]; exact Nat.mul_le_mul_right _ l1
  have m2 : m + 2 ^ s0 ≤ 18446744073709551616 := by
    rw [hm, ← e64, ← p1, ← Nat.succ_mul]
    exact Nat.mul_le_mul_right _ l2
  have hs63 : 2 ^ s0 ≤ 2 ^ 63 := Nat.pow_le_pow_right (by omega) (by omega)
  obtain ⟨y, hy⟩ : ∃ y, 2 * y = 2 ^ s0 := ⟨2 ^ (s0 - 1), by
    have q : 2 ^ (s0 - 1 + 1) = 2 * 2 ^ (s0 - 1) := Nat.pow_succ'
    rw [show s0 - 1 + 1 = s0 by omega] at q
    exact q.symm⟩
  have hpos : 0 < 2 ^ s0 := Nat.two_pow_pos _
  obtain ⟨hh, hh2, hl⟩ := tOk_bounds 324 (by omega)
  have hs60 : s0 - 5 ≤ 60 := by omega
  have u1 := (usc_ge (x := m - y) (l := tL 324) (s := s0 - 5) (by omega) (by omega) hh hh2 hs60).1
  have u3 := (usc_ge (x := m) (l := tL 324) (s := s0 - 5) (by omega) (by omega) hh hh2 hs60).2 (by omega)
  have b1 := Fp.usc_le (m - y) (tH 324) (tL 324) (s0 - 5) (by omega) (by omega) hh2
  have b2 := Fp.usc_le (m + y) (tH 324) (tL 324) (s0 - 5) (by omega) (by omega) hh2
  have b3 := Fp.usc_le m (tH 324) (tL 324) (s0 - 5) (by omega) (by omega) hh2
  obtain ⟨q1, q2⟩ := Fp.pickU_le (o := r % 2) (p := 324) (s := s0 - 5) hs60 (by omega) (by omega) b1 b2 b3
  refine ⟨s0, m, _, _, by omega, by omega, hbl, hm, by omega, fun w hT => short_low r s0 m y (s0 - 5) (tH 324) (tL 324) w (by omega) (by omega) hm hy m1 (by omega) (by omega) hr rfl hh hh2 hl hT.h3 (hT.pw 324 (by omega)), pick_pos u1 u3, ?_, by omega, ?_⟩
  · have : 2 ^ (62 - (s0 - 5)) ≤ 2 ^ 62 := Nat.pow_le_pow_right (by omega) (by omega)
    have e62 : (2 : Nat) ^ 62 = 4611686018427387904 := by decide
    refine Nat.lt_of_le_of_lt (Nat.le_trans (Nat.le_mul_of_pos_right _ (Nat.pow_pos (by omega))) q1) ?_
    omega
  · obtain ⟨e, he⟩ : ∃ e, e = 1000 := ⟨_, rfl⟩
    refine res_small (e := e) h0 (by omega) hs60 (by omega) (by omega) b1 b2 b3 ?_ (by omega)
    have : 2 ^ (62 - (s0 - 5)) ≤ 2 ^ 55 := Nat.pow_le_pow_right (by omega) (by omega)
    refine Nat.le_trans (Nat.mul_le_mul_right _ this) ?_
    rw [← Nat.pow_add]
    exact low_pow e he
/-- the digits that are laid, without noughts at the end -/
theorem laid_digits {d k : Nat} (hd0 : 1 ≤ d) (hd : d < 18446744073709551616) (hdk : d < 10 ^ k) : ∃ n t k', d = n * 10 ^ t ∧ k = k' + t ∧ n % 10 ≠ 0 ∧ n < 10 ^ k' ∧
    [48, 46] ++ List.replicate (k - Lib.nDigits d) 48 ++ (Fp.dg (Lib.nDigits d) d).take (Fp.st (Lib.nDigits d) d).1 = [48, 46] ++ Fp.dg k' n := by
  have hk1 : 1 ≤ k := by
    rcases Nat.eq_zero_or_pos k with e | e
    · rw [e] at hdk; simp at hdk; omega
    · exact e
  have hndk := nDigits_le d k hk1 hdk
  have hlt := Lib.lt_pow_nDigits d
  generalize Lib.nDigits d = nd at *
  obtain ⟨t, ht, he, h3, h4⟩ := Fp.st_is nd d
  have hn0 : d / 10 ^ t % 10 ≠ 0 := by
    rcases h4 with q | q
    · have et : t = nd := by omega
      rw [et, Nat.div_eq_of_lt hlt, Nat.zero_mul] at h3
      omega
    · exact q
  have hnz : d / 10 ^ t < 10 ^ (nd - t) := by
    rw [Nat.div_lt_iff_lt_mul (Nat.pow_pos (by omega)), ← Nat.pow_add, show nd - t + t = nd by omega]; exact hlt
  refine ⟨d / 10 ^ t, t, k - t, h3, by omega, hn0, Nat.lt_of_lt_of_le hnz (Nat.pow_le_pow_right (by omega) (by omega)), ?_⟩
  rw [he]
  generalize d / 10 ^ t = n at *
  have e1 : Fp.dg nd d = Fp.dg (nd - t) n ++ List.replicate t 48 := by
    rw [h3, ← Fp.dg_strip, show nd - t + t = nd by omega]
  have e2 : (Fp.dg nd d).take (nd - t) = Fp.dg (nd - t) n := by
    rw [e1, List.take_left' (Fp.dg_length _ _)]
  have e3 := Fp.dg_pad (k - nd) (nd - t) n hnz
  rw [show k - nd + (nd - t) = k - t by omega] at e3
  simp only
  rw [e2, List.append_assoc, ← e3]
end Go.Proofs.YtclmnkilfijeaaaDoor
