import Derived.Test.YtclmnkilfijeaaaDoorNuP
set_option linter.unusedVariables false
set_option linter.unusedSimpArgs false
namespace Go.Proofs.YtclmnkilfijeaaaDoor
open Go.RowKit
/-- between 0 and 1: what is written -/
theorem ftoa_between (r : Nat) (h0 : 0 < r) (h1 : r < Fp.one) : ∃ n k, FtoaIs r ([48, 46] ++ Fp.dg k n) ∧ n % 10 ≠ 0 ∧ (n < 10 ^ k ∧ k ≤ 340) ∧ (k ≤ 9 → Fp.Means r k n) ∧ (∀ j m, Fp.Means r j m → j = k ∧ m = n) := by
  unfold Fp.one at h1
  by_cases hs : r < 4503599627370496
  · obtain ⟨s0, m, d, k, a1, a2, a3, a4, a5, a6, a7, a8, a9, a10⟩ := short_sub r h0 hs
    obtain ⟨n, t, k', e1, e2, e3, e4, e5⟩ := laid_digits a7 a8 a10.1
    obtain ⟨m1, m2⟩ := a10.2 n t k' e1 e2 e3
    refine ⟨n, k', fun B g cap w hT hB hBg hrow hBw => ?_, e3, ⟨e4, by omega⟩, m1, m2⟩
    have := ftoa_sub B g cap r s0 m d k w h0 hs a1 a2 a3 a4 a5 a6 a7 a8 a10.1 a9 hT hB hBg hrow hBw
    rw [e5] at this
    exact this
  · obtain ⟨L, c, hr, c1, c2⟩ : ∃ L c, r = L * 4503599627370496 + c ∧ 4503599627370496 ≤ c ∧ c < 9007199254740992 := ⟨r / 4503599627370496 - 1, 4503599627370496 + r % 4503599627370496, by omega, by omega, by omega⟩
    obtain ⟨d, k, a6, a7, a8, a9, a10⟩ := short_norm r L c hr c1 c2 (by omega)
    obtain ⟨n, t, k', e1, e2, e3, e4, e5⟩ := laid_digits a7 a8 a10.1
    obtain ⟨m1, m2⟩ := a10.2 n t k' e1 e2 e3
    refine ⟨n, k', fun B g cap w hT hB hBg hrow hBw => ?_, e3, ⟨e4, by omega⟩, m1, m2⟩
    have := ftoa_norm B g cap r L c d k w hr c1 c2 (by omega) a6 a7 a8 a10.1 a9 hT hB hBg hrow hBw
    rw [e5] at this
    exact this
theorem near_one1 : Fp.Near Fp.one 1 (10 ^ 0) := by
  obtain ⟨e, he⟩ : ∃ e, e = 1074 := ⟨_, rfl⟩
  have v := Fp.V_one he
  have u : Fp.unit = 2 * 2 ^ e := Fp.unit_two (by omega)
  have d1 : Fp.V (Fp.one - 1) ≤ Fp.V Fp.one := Fp.V_le (by omega)
  have d2 : Fp.V Fp.one ≤ Fp.V (Fp.one + 1) := Fp.V_le (by omega)
  unfold Fp.Near
  rw [u, v] at *
  generalize 2 ^ e = z at *
  generalize Fp.V (Fp.one - 1) = x at *
  generalize Fp.V (Fp.one + 1) = y at *
  refine ⟨by omega, by omega, fun q => absurd q (by decide)⟩
theorem ftoa_of_one : FtoaIs Fp.one [49] := by
  have hp : Fp.pPow 52 = 16 := by decide
  have g := Fp.good_pow (L := 1022) (a := 52) (by omega) (by omega) (by omega)
  have hc := g.complete (n := 1) (j := 0) (by rw [hp]; omega) near_one1
  have hn := Fp.nearOk_pow 52 (by omega) (by omega)
  obtain ⟨e1, e2⟩ := tOk_exact 16 (by omega) (by omega)
  obtain ⟨hh, hh2, hl⟩ := tOk_bounds 16 (by omega)
  have hlp : Fp.lpN 16 = 53 := by decide
  have hS : ShortIs (4503599627370496 * 2048) ((1022 : Nat) - 1085 : Int) 1000000000000000 15 := fun w hT => by
    have q := short_pow 1022 52 (tH 16) (tL 16) 7 w (by omega) (by omega) (by omega) (by rw [hp]; omega) (by rw [hp, hlp]; omega) (by rw [hp, hlp]) (by omega) hh hh2 hl hT.h3 (by rw [hp]; exact hT.pw 16 (by omega))
    rw [hp] at q hc hn
    have u1 := Fp.near_usc (x := 9223372036854775296) hn (by omega)
    have u2 := Fp.near_usc (x := 9223372036854776832) hn (by omega)
    have u3 := Fp.near_usc (x := 9223372036854775808) hn (by omega)
    rw [hlp, show 52 + 8 - 53 = 7 from rfl] at u1 u2 u3
    rw [e1, e2, u1, u2, u3, ← Fp.pickD_U, hc] at q
    exact q
  intro B g cap w hT hB hBg hrow hBw
  exact ftoa_one B g cap Fp.one 1022 4503599627370496 1000000000000000 15 w rfl (by omega) (by omega) (by omega) hS (by omega) (by omega) rfl rfl hT hB hBg hrow hBw
theorem ftoa_of_zero : FtoaIs 0 [48] := fun B g cap w hT hB hBg hrow hBw => ftoa_zero B g cap w hBg hrow hBw
/-- THE DOCUMENT's 5.1, of a float by its bits -/
def NumIs (r : Nat) (s : ByteArray) (ok : Bool) : Prop :=
  (ok = false ∧ s = ⟨#[]⟩ ∧ r ≠ 0 ∧ r ≠ Fp.one ∧ (0 < r → r < Fp.one → ∀ k n, ¬ Fp.Means r k n)) ∨ (ok = true ∧ r = 0 ∧ s = ⟨#[48]⟩) ∨ (ok = true ∧ r = Fp.one ∧ s = ⟨#[49]⟩) ∨
  (ok = true ∧ 0 < r ∧ r < Fp.one ∧ ∃ k n, Fp.Means r k n ∧ s = ⟨([48, 46] ++ Fp.dg k n).toArray⟩)
theorem means_one {r k n j m : Nat} (h0 : 0 < r) (h1 : r < Fp.one) (a : Fp.Means r k n) (b : Fp.Means r j m) : k = j ∧ n = m := by
  obtain ⟨x, y, _, _, _, _, u⟩ := ftoa_between r h0 h1
  have q1 := u k n a
  have q2 := u j m b
  omega
theorem NumIs.one {r : Nat} {s s' : ByteArray} {ok ok' : Bool} (h : NumIs r s ok) (h' : NumIs r s' ok') : s = s' ∧ ok = ok' := by
  have ho : (0 : Nat) ≠ Fp.one := by decide
  rcases h with ⟨rfl, rfl, a1, a2, a3⟩ | ⟨rfl, rfl, rfl⟩ | ⟨rfl, rfl, rfl⟩ | ⟨rfl, a1, a2, k, n, a3, rfl⟩
  · rcases h' with ⟨rfl, rfl, b1, b2, b3⟩ | ⟨rfl, rfl, rfl⟩ | ⟨rfl, rfl, rfl⟩ | ⟨rfl, b1, b2, j, m, b3, rfl⟩
    · exact ⟨rfl, rfl⟩
    · exact absurd rfl a1
    · exact absurd rfl a2
    · exact absurd b3 (a3 b1 b2 _ _)
  · rcases h' with ⟨rfl, rfl, b1, b2, b3⟩ | ⟨rfl, b, rfl⟩ | ⟨rfl, b, rfl⟩ | ⟨rfl, b1, b2, j, m, b3, rfl⟩
    · exact absurd rfl b1
    · exact ⟨rfl, rfl⟩
    · exact absurd b ho
    · exact absurd b1 (by omega)
  · rcases h' with ⟨rfl, rfl, b1, b2, b3⟩ | ⟨rfl, b, rfl⟩ | ⟨rfl, b, rfl⟩ | ⟨rfl, b1, b2, j, m, b3, rfl⟩
    · exact absurd rfl b2
    · exact absurd b.symm ho
    · exact ⟨rfl, rfl⟩
    · exact absurd b2 (Nat.lt_irrefl _)
  · rcases h' with ⟨rfl, rfl, b1, b2, b3⟩ | ⟨rfl, b, rfl⟩ | ⟨rfl, b, rfl⟩ | ⟨rfl, b1, b2, j, m, b3, rfl⟩
    · exact absurd a3 (b3 a1 a2 _ _)
    · omega
    · omega
    · obtain ⟨rfl, rfl⟩ := means_one a1 a2 a3 b3
      exact ⟨rfl, rfl⟩
theorem order_nan {r : Nat} (h1 : 9218868437227405312 < r) (h2 : r < 9223372036854775808) : Ieee.double.order r r = none := by
  unfold Ieee.Format.order
  have : Ieee.double.read r = .nan false (r - 9218868437227405312) := by
    unfold Ieee.Format.read
    simp only [Fp.d_sign, Fp.d_bin, Fp.d_inf, Fp.d_least]
    rw [show r / 9223372036854775808 % 2 = 0 by omega, show r % 9223372036854775808 = r by omega, if_neg (by omega), if_neg (by omega), if_neg (by omega)]
    rfl
  rw [this]
  rfl
theorem order_inf : Ieee.double.order 9218868437227405312 4607182418800017408 = some .gt := by decide
theorem number_any (r : Nat) (hr : r < 18446744073709551616) (w : World) (hT : Tb w) :
    Calls Tryd.prog 6 #[.float .f64 r] w fun e w' => (∃ s ok, e = .returned (.tuple #[.string s, .bool ok]) ∧ NumIs r s ok) ∧ Below w.heap.size w w' := by
  have ref : (r ≠ 0 ∧ r ≠ Fp.one ∧ (0 < r → r < Fp.one → ∀ k n, ¬ Fp.Means r k n)) → (FloatKind.f64.format.order r r ≠ some .eq ∨ 9223372036854775808 ≤ r ∨ FloatKind.f64.format.order r 4607182418800017408 = some .gt) →
      Calls Tryd.prog 6 #[.float .f64 r] w fun e w' => (∃ s ok, e = .returned (.tuple #[.string s, .bool ok]) ∧ NumIs r s ok) ∧ Below w.heap.size w w' := by
    intro h1 h2
    refine (number_refused r hr w h2).mono ?_
    rintro e w' ⟨rfl, rfl⟩
    exact ⟨⟨_, _, rfl, .inl ⟨rfl, rfl, h1⟩⟩, Below.refl _ _⟩
  have ho : Fp.one = 4607182418800017408 := rfl
  by_cases c1 : 9223372036854775808 ≤ r
  · exact ref ⟨by omega, by omega, fun _ q => by omega⟩ (.inr (.inl c1))
  by_cases c2 : 9218868437227405312 < r
  · refine ref ⟨by omega, by omega, fun _ q => by omega⟩ (.inl ?_)
    rw [show FloatKind.f64.format = Ieee.double from rfl, order_nan c2 (by omega)]
    intro q; cases q
  by_cases c3 : r = 9218868437227405312
  · refine ref ⟨by omega, by omega, fun _ q => by omega⟩ (.inr (.inr ?_))
    rw [c3]; exact order_inf
  have hself : FloatKind.f64.format.order r r = some .eq := by
    rw [show FloatKind.f64.format = Ieee.double from rfl, Fp.order_rung (by omega) (by omega), Nat.compare_eq_eq.2 rfl]
  have hcmp : FloatKind.f64.format.order r 4607182418800017408 = some (compare r 4607182418800017408) := by
    rw [show FloatKind.f64.format = Ieee.double from rfl, Fp.order_rung (by omega) (by omega)]
  by_cases c4 : Fp.one < r
  · refine ref ⟨by omega, by omega, fun _ q => by omega⟩ (.inr (.inr ?_))
    rw [hcmp, Nat.compare_eq_gt.2 (by omega)]
  have hng : FloatKind.f64.format.order r 4607182418800017408 ≠ some .gt := by
    rw [hcmp]
    intro q
    have := Nat.compare_eq_gt.1 (Option.some.inj q)
    omega
  by_cases c5 : r = Fp.one
  · subst c5
    refine (number_write Fp.one [49] (by omega) w hself hng ftoa_of_one hT (by simp)).mono ?_
    rintro e w' ⟨rfl, b⟩
    exact ⟨⟨_, _, rfl, .inr (.inr (.inl ⟨rfl, rfl, rfl⟩))⟩, b⟩
  by_cases c6 : r = 0
  · subst c6
    refine (number_write 0 [48] (by omega) w hself hng ftoa_of_zero hT (by simp)).mono ?_
    rintro e w' ⟨rfl, b⟩
    exact ⟨⟨_, _, rfl, .inr (.inl ⟨rfl, rfl, rfl⟩)⟩, b⟩
  obtain ⟨n, k, hF, h10, hlt, hm, hu⟩ := ftoa_between r (by omega) (by omega)
  have hlen : ([48, 46] ++ Fp.dg k n).length = 2 + k := by rw [List.length_append, Fp.dg_length]; rfl
  by_cases hk : k ≤ 9
  · refine (number_write r _ (by omega) w hself hng hF hT (by rw [hlen]; omega)).mono ?_
    rintro e w' ⟨rfl, b⟩
    rw [if_pos (by rw [hlen]; omega)]
    exact ⟨⟨_, _, rfl, .inr (.inr (.inr ⟨rfl, by omega, by omega, k, n, hm hk, rfl⟩))⟩, b⟩
  · refine (number_write r _ (by omega) w hself hng hF hT (by rw [hlen]; omega)).mono ?_
    rintro e w' ⟨rfl, b⟩
    rw [if_neg (by rw [hlen]; omega)]
    refine ⟨⟨_, _, rfl, .inl ⟨rfl, rfl, c6, c5, fun _ _ j m q => ?_⟩⟩, b⟩
    have := (hu j m q).1
    have := q.2.1
    omega
end Go.Proofs.YtclmnkilfijeaaaDoor
