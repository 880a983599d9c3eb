import Derived.Test.YtfkoacjfihaajaaShQ
set_option linter.unusedVariables false
set_option linter.unusedSimpArgs false
namespace Go.Proofs.Ytfkoacjfihaajaa
open Go.RowKit
namespace N
open Fl M
theorem vs_lt {r e D : Nat} (hD : D = 925) (he : e = 1177) (h : r < 2139095040) : vs D r < Bd e := by
  have h1 := V_le 23 (show r ≤ 253 * 2 ^ 23 + 16777215 by rw [show (2 : Nat) ^ 23 = 8388608 by decide]; omega)
  rw [V_mk 23 253 16777215 (by decide) (by decide)] at h1
  have h2 : vs D r ≤ 16777215 * 2 ^ 253 * 2 ^ D := Nat.mul_le_mul_right _ h1
  have h3 : 16777215 * 2 ^ 253 * 2 ^ D = 33554430 * 2 ^ e := by
    rw [Nat.mul_assoc, ← Nat.pow_add, show 253 + D = e + 1 by omega, Nat.pow_succ, Nat.mul_comm (2 ^ e), ← Nat.mul_assoc]
  rw [h3] at h2
  unfold Bd
  have := Nat.two_pow_pos e
  omega
theorem order32_self {z : Nat} (h : isn (Ieee.single.read z) = false) : FloatKind.f32.format.order z z = some .eq := by
  show (Ieee.single.read z).order (Ieee.single.read z) = some .eq
  generalize Ieee.single.read z = d at *
  cases d with
  | number s m p => unfold Ieee.Datum.order; simp only [Option.some.injEq]; exact Int.compare_eq_eq.2 rfl
  | infinity s => unfold Ieee.Datum.order; simp only [Option.some.injEq]; exact Nat.compare_eq_eq.2 rfl
  | nan s f => cases h
theorem order32_nan {x y : Nat} (h : isn (Ieee.single.read x) = true) : FloatKind.f32.format.order x y = none := by
  show (Ieee.single.read x).order (Ieee.single.read y) = none
  generalize Ieee.single.read x = d at *
  cases d <;> first | (cases h; done) | rfl
theorem order32_like {s s' : Bool} {r : Nat} (hr : r < 2139095040) (h : s = s' ∨ r = 0) : FloatKind.f32.format.order (Ieee.single.word s r) (Ieee.single.word s' r) = some .eq := by
  rcases h with h | h
  · subst h
    refine order32_self ?_
    obtain ⟨m, e, h1, _⟩ := read_word Ieee.single s (r := r) (by rw [s_inf]; exact hr)
    rw [h1]; rfl
  · subst h; cases s <;> cases s' <;> decide +kernel
theorem sg_eq {s s' : Bool} {n : Nat} (h : sg s n = sg s' n) : s = s' ∨ n = 0 := by
  cases s <;> cases s' <;> simp [sg] at h ⊢ <;> omega
theorem sub32 {s : Bool} {r : Nat} (hr : r < 2139095040) : floatBits .sub .f32 (Ieee.single.word s r) (Ieee.single.word s r) = some 0 := by
  obtain ⟨m, e, h1, _⟩ := read_word Ieee.single s (r := r) (by rw [s_inf]; exact hr)
  show ((Ieee.single.read (Ieee.single.word s r)).sum (Ieee.single.read (Ieee.single.word s r)).opposite).map Ieee.single.write = some 0
  rw [h1]
  unfold Ieee.Datum.opposite Ieee.Datum.sum
  simp only [signed_eq, Int.sub_self, Option.map_some]
  have e0 : ∀ n, sg s n + sg (!s) n = 0 := fun n => by cases s <;> simp [sg] <;> omega
  simp only [Int.min_self, Int.sub_self, e0]
  rw [if_pos trivial, show (s && !s) = false by cases s <;> rfl]
  show some (Ieee.single.nearest false (0 : Int).natAbs _) = some 0
  unfold Ieee.Format.nearest
  rw [if_pos (show (0 : Int).natAbs = 0 from rfl)]; rfl
theorem cut_nan32 (x y t : Nat) : isn (Ieee.single.read ((Question.nanBits .f32 x y).cut t)) = true := by
  show isn (Ieee.single.read ((t % 2) * 2 ^ 31 + 0x7f800000 + 1 + (t / 2) % (2 ^ 23 - 1))) = true
  have h1 : t / 2 % (2 ^ 23 - 1) < 8388607 := Nat.mod_lt _ (by decide)
  generalize t / 2 % (2 ^ 23 - 1) = u at *
  have h2 : t % 2 = 0 ∨ t % 2 = 1 := by omega
  have hb : Ieee.single.binade = 8388608 := by decide
  have p31 : (2 : Nat) ^ 31 = 2147483648 := by decide
  unfold Ieee.Format.read
  simp only [s_sign, hb, s_inf, p31]
  generalize hX : t % 2 * 2147483648 + 2139095040 + 1 + u = X
  have e : X % 2147483648 = 2139095040 + 1 + u := by omega
  rw [e, if_neg (by omega), if_neg (by omega), if_neg (by omega)]
  rfl
theorem sub32_nan {z : Nat} (h : floatBits .sub .f32 z z = none) (w : World) : ∃ r, (binOp .sub 45 (.float .f32 z) (.float .f32 z)).run Try.prog w = .ok (.float .f32 r) (w.drewN 1) ∧ FloatKind.f32.format.order r 0 = none := by
  refine ⟨(Question.nanBits .f32 z z).cut (w.tape w.drawn (Question.nanBits .f32 z z)), ?_, order32_nan (cut_nan32 _ _ _)⟩
  have hu := Try.underlying45
  have h' : FloatKind.f32.format.sub z z = none := h
  simp [binOp, underlying, hu, Op.floatArith, h', Question.forced]; rfl
theorem sub32_none {z : Nat} (h : (∃ s, z = Ieee.single.word s 2139095040) ∨ isn (Ieee.single.read z) = true) : floatBits .sub .f32 z z = none := by
  rcases h with ⟨s, rfl⟩ | h
  · cases s <;> decide +kernel
  · show ((Ieee.single.read z).sum (Ieee.single.read z).opposite).map _ = none
    rw [nan_sum (.inl h)]; rfl
theorem conv_nan {z : Nat} (h : isn (Ieee.single.read z) = true) (w : World) : ∃ Z, (convert 45 27 (.float .f32 z)).run Try.prog w = .ok (.float .f64 Z) (w.drewN 1) ∧ isn (Ieee.double.read Z) = true := by
  refine ⟨(Question.nanConv .f64 z).cut (w.tape w.drawn (Question.nanConv .f64 z)), ?_, cut_nan 0 0 _⟩
  have h1 : ∃ s f, FloatKind.f32.decode z = .nan s f := by
    show ∃ s f, Ieee.single.read z = .nan s f
    generalize Ieee.single.read z = d at *
    cases d with
    | nan s f => exact ⟨s, f, rfl⟩
    | _ => cases h
  obtain ⟨s, f, h1⟩ := h1
  have hs := Try.underlying45
  have hd := Try.underlying27
  simp [convert, run_underlying hs, run_underlying hd, Conv.floatToFloat, h1, Question.forced]; rfl
/-- what is asked of z at a world -/
structure Zk (z : Nat) (w : World) (Z own none_ zz k k2 : Nat) : Prop where
  cv : (convert 45 27 (.float .f32 z)).run Try.prog w = .ok (.float .f64 Z) (w.drewN k)
  sh : ∀ w, Calls Try.prog 25 #[.float .f64 Z] w fun e w' => e = .returned (.tuple #[.float .f32 own, .float .f64 none_]) ∧ w' = w
  sb : (binOp .sub 45 (.float .f32 z) (.float .f32 z)).run Try.prog (w.drewN k) = .ok (.float .f32 zz) (w.drewN (k + k2))
/-- z is no number, or an infinity -/
theorem z_huge {z : Nat} (h : (∃ s, z = Ieee.single.word s 2139095040) ∨ isn (Ieee.single.read z) = true) (w : World) : ∃ Z zz k k2, Zk z w Z 0 Z zz k k2 ∧ FloatKind.f32.format.order zz 0 = none := by
  have hn := sub32_none h
  rcases h with ⟨s, rfl⟩ | h
  · obtain ⟨zz, h1, h2⟩ := sub32_nan hn w
    have hc : floatToFloatBits .f32 (Ieee.single.word s 2139095040) .f64 = some (Ieee.double.word s 9218868437227405312) := by cases s <;> decide +kernel
    exact ⟨Ieee.double.word s 9218868437227405312, zz, 0, 1, ⟨conv_3264 hc w, fun w => short_out w (out_inf s), by rw [Nat.zero_add]; exact h1⟩, h2⟩
  · obtain ⟨Z, c1, c2⟩ := conv_nan h w
    obtain ⟨zz, h1, h2⟩ := sub32_nan hn (w.drewN 1)
    refine ⟨Z, zz, 1, 1, ⟨c1, fun w => short_out w (out_nan c2), ?_⟩, h2⟩
    rw [h1, World.drewN_drewN]
/-- z is a number -/
theorem z_fin {s : Bool} {r D e : Nat} (hD : D = 925) (he : e = 1177) (hr : r < 2139095040) (w : World) : ∃ Z own none_, Zk (Ieee.single.word s r) w Z own none_ 0 0 0 ∧ FloatKind.f32.format.order own (Ieee.single.word s r) = some .eq ∧ FloatKind.f64.format.order none_ 0 = some .eq ∧ Fin Z (sg s (vs D r)) ∧ floatToFloatBits .f32 (Ieee.single.word s r) .f64 = some Z := by
  obtain ⟨Z, hc, hZ⟩ := wide (s := s) hD hr
  have hb : (sg s (vs D r)).natAbs < Bd e := by rw [sg_abs]; exact vs_lt hD he hr
  obtain ⟨s', Y, L, h⟩ := sh_of hD he hZ hb
  have hrn : rn 23 D (sg s (vs D r)).natAbs = r := by rw [sg_abs]; exact rn_V 23 D r
  have hsh := short_in he hZ hb h
  have hsg := h.sgn
  have hfl := h.fl
  rw [hrn] at hsh hfl
  rw [sg_abs] at hsg
  refine ⟨Z, _, L, ⟨conv_3264 hc w, hsh, run_float_arith _ .sub 45 .f32 _ _ 0 (sub32 hr)⟩, ?_, ?_, hZ, hc⟩
  · refine order32_like hr ?_
    rcases sg_eq hsg with q | q
    · exact .inl q.symm
    · right
      unfold vs at q
      have : V 23 r = 0 := by
        rcases Nat.mul_eq_zero.1 q with z | z
        · exact z
        · have := Nat.two_pow_pos D; omega
      exact V_inj 23 (this.trans (V_low (by decide)).symm)
  · rw [← hsg, Int.sub_self] at hfl
    exact fin_same hfl fin_zero
/-- no float32 is nearer -/
theorem nearer {x Z L : Nat} {v : Int} {s s' : Bool} {r D e Y : Nat} (hD : D = 925) (he : e = 1177) (hx : Fin x v) (hb : v.natAbs < Bd e) (h : Sh x v D s Y L) (hr : r < 2139095040) (hZ : Fin Z (sg s' (vs D r))) :
    ∃ A d A', (∀ w, Calls Try.prog 33 #[.float .f64 L] w fun e w' => e = .returned (.float .f64 A) ∧ w' = w) ∧ Ieee.double.sub x Z = some d ∧ (∀ w, Calls Try.prog 33 #[.float .f64 d] w fun e w' => e = .returned (.float .f64 A') ∧ w' = w) ∧ (FloatKind.f64.format.order A A' = some .lt ∨ FloatKind.f64.format.order A A' = some .eq) := by
  obtain ⟨A, fA, cA⟩ := away_fin h.fl
  obtain ⟨g, hd, g1, g2⟩ := sub_rn hx hZ
  -- how far
  have hv1 := rn_near 23 D v.natAbs r
  have hv0 := rn_near 23 D v.natAbs 0
  rw [show V 23 0 = 0 from rfl, Nat.zero_mul, Nat.zero_sub, Nat.zero_add, Nat.sub_zero] at hv0
  have hdist : (v - sg s (vs D (rn 23 D v.natAbs))).natAbs ≤ (v - sg s' (vs D r)).natAbs := by
    have hs := h.sgn
    unfold vs
    generalize V 23 (rn 23 D v.natAbs) * 2 ^ D = y at *
    generalize V 23 r * 2 ^ D = z at *
    generalize v.natAbs = n at *
    rw [hs]
    cases s <;> cases s' <;> simp [sg] <;> omega
  have hzb := vs_lt hD he hr
  have hfinite : rn 52 0 (v - sg s' (vs D r)).natAbs < 9218868437227405312 := by
    have h1 : (v - sg s' (vs D r)).natAbs ≤ v.natAbs + vs D r := by
      generalize vs D r = z
      cases s' <;> simp [sg] <;> omega
    have h2 : (v - sg s' (vs D r)).natAbs ≤ 1 * 2 ^ (e + 27) := by
      have h3 : Bd e + Bd e ≤ 1 * 2 ^ (e + 27) := by
        unfold Bd
        rw [Nat.pow_add, Nat.one_mul, ← Nat.add_mul, Nat.mul_comm]
        exact Nat.mul_le_mul_left _ (by decide)
      omega
    exact (rn_le (rep_mk (c := 1) (L := e + 27) (by omega) (by omega)) h2).2
  rw [Nat.min_eq_left (by omega)] at hd
  have fd : Fin (Ieee.double.word g (rn 52 0 (v - sg s' (vs D r)).natAbs)) (sg g (V 52 (rn 52 0 (v - sg s' (vs D r)).natAbs))) := fin_mk hfinite
  obtain ⟨A', fA', cA'⟩ := away_fin fd
  rw [sg_abs] at fA'
  refine ⟨A, _, A', cA, hd, cA', ?_⟩
  have ho := order_fin fA fA'
  obtain ⟨r0, hr0, hV0⟩ := h.fl.rep
  have hle : (v - sg s (vs D (rn 23 D v.natAbs))).natAbs ≤ V 52 (rn 52 0 (v - sg s' (vs D r)).natAbs) := by
    rw [← hV0] at hdist ⊢
    have := rn_mono 52 0 hdist
    have e1 := rn_V 52 0 r0
    rw [Nat.pow_zero, Nat.mul_one] at e1
    rw [e1] at this
    exact V_le 52 this
  generalize V 52 (rn 52 0 (v - sg s' (vs D r)).natAbs) = P at *
  generalize (v - sg s (vs D (rn 23 D v.natAbs))).natAbs = R at *
  rcases Nat.eq_or_lt_of_le hle with q | q
  · subst q; rw [Int.compare_eq_eq.2 rfl] at ho; exact .inr ho
  · rw [Int.compare_eq_lt.2 (by omega)] at ho; exact .inl ho
end N
end Go.Proofs.Ytfkoacjfihaajaa
