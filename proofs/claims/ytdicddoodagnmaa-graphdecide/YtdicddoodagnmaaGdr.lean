import Derived.Test.YtdicddoodagnmaaGdc
set_option linter.unusedVariables false
set_option linter.unusedSimpArgs false
namespace Go.Proofs.Ytdicddoodagnmaa
open Go.RowKit
namespace D
theorem atI_no {zs : List Int} {i : Int} (h : i < 0 ∨ (zs.length : Int) ≤ i) : atI zs i = 0 := by unfold atI; rw [inb_no h]; rfl
theorem atN_no {zs : List Nat} {i : Int} (h : i < 0 ∨ (zs.length : Int) ≤ i) : atN zs i = 0 := by unfold atN; rw [inb_no h]; rfl
theorem atR_no {zs : List Mr} {i : Int} (h : i < 0 ∨ (zs.length : Int) ≤ i) : atR zs i = mr0 := by unfold atR; rw [inb_no h]; rfl
theorem mk1_no {i : Int} (h : i < 0 ∨ 15 < i) : mk1 i = 0 := by unfold mk1; rw [inb_no (by rcases h with h | h; exact .inl h; exact .inr (by omega))]; rfl
theorem prd_le {x : Int} {n : Nat} (h : x < 1) (hn : (n : Int) ≤ 9223372036854775807) : prd x < 0 ∨ (n : Int) ≤ prd x := by unfold prd; split <;> omega
theorem prd_gt {x : Int} {n : Nat} (h : (n : Int) < x) : prd x < 0 ∨ (n : Int) ≤ prd x := by unfold prd; split <;> omega
theorem prd_in {x : Int} (h : 1 ≤ x) : prd x = x - 1 := by unfold prd; split <;> omega
theorem atN_mr0 (i : Int) : atN mr0.l i = 0 := atN_no (by show i < 0 ∨ ((0 : Nat) : Int) ≤ i; omega)
theorem dec_k {G : Gf} {ts to ta : ByteArray} (h : G.k ts to = 0) : G.dec ts to ta = false := by unfold Gf.dec; rw [h, Nat.zero_and]; rfl
theorem dec_m {G : Gf} {ts to ta : ByteArray} (h : fdx G.a.2.2 ta < 0 ∨ 15 < fdx G.a.2.2 ta) : G.dec ts to ta = false := by unfold Gf.dec; rw [mk1_no h, Nat.and_zero]; rfl
theorem dec_x {G : Gf} {ts to ta : ByteArray} (h : prd (G.x ts) < 0 ∨ (G.m.2.2.length : Int) ≤ prd (G.x ts)) : G.dec ts to ta = false := dec_k (by unfold Gf.k; rw [atR_no h]; exact atN_mr0 _)
theorem dec_y {G : Gf} {ts to ta : ByteArray} (h : prd (G.y to) < 0 ∨ ((atR G.m.2.2 (prd (G.x ts))).l.length : Int) ≤ prd (G.y to)) : G.dec ts to ta = false := dec_k (by unfold Gf.k; exact atN_no h)
theorem prd0 : prd 0 = -1 := by decide
theorem dec_i {G : Gf} {ts to ta : ByteArray} (h : fdx G.s.2.2 ts < 0 ∨ (G.f.2.2.length : Int) ≤ fdx G.s.2.2 ts) : G.dec ts to ta = false := dec_x (by unfold Gf.x; rw [atI_no h, prd0]; omega)
theorem dec_j {G : Gf} {ts to ta : ByteArray} (h : fdx G.o.2.2 to < 0 ∨ (G.n.2.2.length : Int) ≤ fdx G.o.2.2 to) : G.dec ts to ta = false := dec_y (by unfold Gf.y; rw [atI_no h, prd0]; omega)
theorem and_pow (m k : Nat) : m &&& 2 ^ k = if m.testBit k then 2 ^ k else 0 := by
  apply Nat.eq_of_testBit_eq
  intro i
  rw [Nat.testBit_and, Nat.testBit_two_pow]
  by_cases e : k = i
  · subst e
    cases h : m.testBit k <;> simp [Nat.testBit_two_pow]
  · cases h : m.testBit k <;> simp [Nat.testBit_two_pow, e]
theorem bit_and (m k : Nat) (hk : k < 16) : (!((m &&& mk1 (k : Int)) == 0)) = ((m : Int) / 2 ^ k % 2 == 1) := by
  have e : mk1 (k : Int) = 2 ^ k := by unfold mk1; rw [inb_yes (by omega) (by omega)]; simp
  rw [e, and_pow, show ((m : Int) / 2 ^ k % 2) = ((m / 2 ^ k % 2 : Nat) : Int) by simp, ← Nat.toNat_testBit]
  have hp : 0 < 2 ^ k := Nat.pow_pos (by omega)
  generalize 2 ^ k = p at *
  cases m.testBit k <;> simp <;> omega
theorem half_pow (m : Int) (n : Nat) (h : 0 ≤ m) : m / 2 ^ n / 2 = m / 2 ^ (n + 1) := by rw [Int.ediv_ediv_of_nonneg (by exact Int.pow_nonneg (by decide)), Int.pow_succ]
theorem ret_b {a b : Bool} (h : a = b) : Ending.returned (.bool a) = .returned (.bool b) := by rw [h]
def Stay (p : Prop) : Prop := p
theorem stay_ld {P : Program} {ops : Array Oper} {rest : List Oper} {o : Oper} {a : Act} {Q : Exit → Act → World → Prop} {w : World} (t : TypeId) (x : Operand) (ho : o.op = .load t x) (h : Stay (wpList P ops Q (o :: rest) a w)) : wpList P ops Q (o :: rest) a w := h
set_option maxHeartbeats 2000000 in
set_option maxRecDepth 100000 in
theorem rdecide_any (G : Gf) (ts to ta : ByteArray) (w : World) (h : G.In w) :
    Calls Try.prog 21 #[.agg #[.slice G.a.1 G.a.2.2.length G.a.2.1, .slice G.s.1 G.s.2.2.length G.s.2.1, .slice G.o.1 G.o.2.2.length G.o.2.1, .slice G.f.1 G.f.2.2.length G.f.2.1, .slice G.n.1 G.n.2.2.length G.n.2.1, .slice G.m.1 G.m.2.2.length G.m.2.1], .agg #[.string ts, .string to, .string ta]] w fun e w' => e = .returned (.bool (G.dec ts to ta)) ∧ Below w.heap.size w w' := by
  have H := hide' h
  clear h
  go_enter Try.func21, Try.ntmps21
  have B0 := hide' (Bx.mk2 G ts to ta w)
  obtain ⟨V, hV⟩ : ∃ V, V = ((w.alloc (.cells #[.slice G.a.1 G.a.2.2.length G.a.2.1, .slice G.s.1 G.s.2.2.length G.s.2.1, .slice G.o.1 G.o.2.2.length G.o.2.1, .slice G.f.1 G.f.2.2.length G.f.2.1, .slice G.n.1 G.n.2.2.length G.n.2.1, .slice G.m.1 G.m.2.2.length G.m.2.1] 28)).alloc (.cells #[.string ts, .string to, .string ta] 32)) := ⟨_, rfl⟩
  rw [← hV] at B0
  obtain ⟨e0, e1, e2, e3, e4, e5, t0, t1, t2⟩ := B0.out.cs
  rw [hV] at e0 e1 e2 e3 e4 e5 t0 t1 t2
  go_wp2_with fail
  rw [← hV] at e0 e1 e2 e3 e4 e5 t0 t1 t2
  rw [← hV]
  clear hV
  obtain ⟨q2, hq2⟩ : ∃ q2, q2 = w.heap.size := ⟨_, rfl⟩
  generalize hq3 : w.heap.size + 1 = q3 at *
  rw [← hq2]
  rw [← hq2] at B0 e0 e1 e2 e3 e4 e5
  clear hq2 hq3
  have HV := hide' (H.out.below B0.out.b)
  refine (place_any G.s.1 G.s.2.1 G.s.2.2 ts _ HV.out.s.1 HV.out.s.2.1 HV.out.s.2.2).mono ?_
  rintro e _ ⟨rfl, rfl⟩
  go_wp2_with fail
  refine (place_any G.o.1 G.o.2.1 G.o.2.2 to _ HV.out.o.1 HV.out.o.2.1 HV.out.o.2.2).mono ?_
  rintro e _ ⟨rfl, rfl⟩
  go_wp2_with fail
  refine (place_any G.a.1 G.a.2.1 G.a.2.2 ta _ HV.out.a.1 HV.out.a.2.1 HV.out.a.2.2).mono ?_
  rintro e V ⟨rfl, rfl⟩
  have Di : Hid (fdx G.s.2.2 ts < 0 ∨ (G.f.2.2.length : Int) ≤ fdx G.s.2.2 ts → G.dec ts to ta = false) := dec_i
  have Dj : Hid (fdx G.o.2.2 to < 0 ∨ (G.n.2.2.length : Int) ≤ fdx G.o.2.2 to → G.dec ts to ta = false) := dec_j
  have Dk : Hid (fdx G.a.2.2 ta < 0 ∨ 15 < fdx G.a.2.2 ta → G.dec ts to ta = false) := dec_m
  have Ex : Hid (G.x ts = atI G.f.2.2 (fdx G.s.2.2 ts)) := rfl
  have Ey : Hid (G.y to = atI G.n.2.2 (fdx G.o.2.2 to)) := rfl
  have Ed : Hid (G.dec ts to ta = !((G.k ts to &&& mk1 (fdx G.a.2.2 ta)) == 0)) := rfl
  have bi := (fdx_bd G.s.2.2 ts).1
  have bj := (fdx_bd G.o.2.2 to).1
  have bk := (fdx_bd G.a.2.2 ta).1
  generalize fdx G.s.2.2 ts = i at *
  generalize fdx G.o.2.2 to = j at *
  generalize fdx G.a.2.2 ta = k at *
  by_cases c : i < 0
  · have KF : Hid (G.dec ts to ta = false) := Di.out (.inl c)
    clear Di Dj Dk Ex Ey Ed
    go_wp2_with fail
    go_ret
    exact ⟨by rw [KF.out]; rfl, B0.out.b⟩
  have n0 := c
  clear c
  by_cases c : j < 0
  · have KF : Hid (G.dec ts to ta = false) := Dj.out (.inl c)
    clear Di Dj Dk Ex Ey Ed
    go_wp2_with fail
    go_ret
    exact ⟨by rw [KF.out]; rfl, B0.out.b⟩
  have n1 := c
  clear c
  by_cases c : k < 0
  · have KF : Hid (G.dec ts to ta = false) := Dk.out (.inl c)
    clear Di Dj Dk Ex Ey Ed
    go_wp2_with fail
    go_ret
    exact ⟨by rw [KF.out]; rfl, B0.out.b⟩
  have n2 := c
  clear c
  by_cases c : 15 < k
  · have KF : Hid (G.dec ts to ta = false) := Dk.out (.inr c)
    clear Di Dj Dk Ex Ey Ed
    go_wp2_with fail
    go_ret
    exact ⟨by rw [KF.out]; rfl, B0.out.b⟩
  have n3 := c
  clear c
  by_cases c : (G.f.2.2.length : Int) ≤ i
  · have KF : Hid (G.dec ts to ta = false) := Di.out (.inr c)
    clear Di Dj Dk Ex Ey Ed
    go_wp2_with fail
    go_ret
    exact ⟨by rw [KF.out]; rfl, B0.out.b⟩
  have n4 := c
  clear c
  by_cases c : (G.n.2.2.length : Int) ≤ j
  · have KF : Hid (G.dec ts to ta = false) := Dj.out (.inr c)
    clear Di Dj Dk Ex Ey Ed
    go_wp2_with fail
    go_ret
    exact ⟨by rw [KF.out]; rfl, B0.out.b⟩
  have n5 := c
  clear c
  clear Di Dj Dk
  obtain ⟨i, rfl⟩ := Int.eq_ofNat_of_zero_le (by omega : 0 ≤ i)
  obtain ⟨j, rfl⟩ := Int.eq_ofNat_of_zero_le (by omega : 0 ≤ j)
  obtain ⟨k, rfl⟩ := Int.eq_ofNat_of_zero_le (by omega : 0 ≤ k)
  have hif : (i : Int) < (G.f.2.2.length : Int) := by omega
  have hjn : (j : Int) < (G.n.2.2.length : Int) := by omega
  obtain ⟨x, hx⟩ : ∃ x, G.f.2.2[i]? = some x := ⟨_, List.getElem?_eq_getElem (by omega)⟩
  obtain ⟨y, hy⟩ : ∃ y, G.n.2.2[j]? = some y := ⟨_, List.getElem?_eq_getElem (by omega)⟩
  have ex : Hid (G.x ts = x) := by show _ = _; rw [Ex.out]; unfold atI; rw [inb_yes (by omega) hif]; simp [List.getD, hx]
  have ey : Hid (G.y to = y) := by show _ = _; rw [Ey.out]; unfold atI; rw [inb_yes (by omega) hjn]; simp [List.getD, hy]
  obtain ⟨xb, xo, hxa, _, xc⟩ := HV.out.f.1.one hx
  obtain ⟨yb, yo, hya, _, yc⟩ := HV.out.n.1.one hy
  rw [hxa] at e3
  rw [hya] at e4
  have rx := HV.out.fi x (List.mem_of_getElem? hx)
  have ry := HV.out.ni y (List.mem_of_getElem? hy)
  have lm := HV.out.m.2.2
  have Dx : Hid (x < 1 ∨ (G.m.2.2.length : Int) < x → G.dec ts to ta = false) := fun q => dec_x (by rw [ex.out]; rcases q with q | q; exact prd_le q lm; exact prd_gt q)
  have Dy : Hid (y < 1 → G.dec ts to ta = false) := fun q => dec_y (by rw [ey.out]; exact prd_le q (atR_ok HV.out _).1.2.2)
  have hxl : Hid (G.f.2.2[i]? = some x ∧ G.n.2.2[j]? = some y ∧ G.f.1 = some ⟨xb, xo, none⟩ ∧ G.n.1 = some ⟨yb, yo, none⟩) := ⟨hx, hy, hxa, hya⟩
  have xw : G.f.1 = some ⟨xb, xo, none⟩ := hxa
  clear hx hy Ex Ey
  rw [hxa, hya]
  clear hxa hya xw
  go_wp2_with (with_reducible refine stay_ld 3 (.tmp 63) rfl ?_)
  unfold Stay
  rename_i hj1 hj2 K1 K2
  clear n0 n1 n2 n4 n5 hif e3 bi bj bk xc hjn e4 hj1 hj2
  by_cases c : x < 1
  · have KF : Hid (G.dec ts to ta = false) := Dx.out (.inl c)
    clear Dx Dy ex ey Ed
    go_wp2_with fail
    go_ret
    exact ⟨by rw [KF.out]; rfl, B0.out.b⟩
  have m0 := c
  clear c
  by_cases c : (G.m.2.2.length : Int) < x
  · have KF : Hid (G.dec ts to ta = false) := Dx.out (.inr c)
    clear Dx Dy ex ey Ed
    go_wp2_with fail
    go_ret
    exact ⟨by rw [KF.out]; rfl, B0.out.b⟩
  have m1 := c
  clear c
  by_cases c : y < 1
  · have KF : Hid (G.dec ts to ta = false) := Dy.out c
    clear Dx Dy ex ey Ed
    go_wp2_with fail
    go_ret
    exact ⟨by rw [KF.out]; rfl, B0.out.b⟩
  have m2 := c
  clear c
  clear Dx Dy
  obtain ⟨x0, rfl⟩ : ∃ x0 : Nat, x = (x0 : Int) + 1 := ⟨(x - 1).toNat, by omega⟩
  obtain ⟨y0, rfl⟩ : ∃ y0 : Nat, y = (y0 : Int) + 1 := ⟨(y - 1).toNat, by omega⟩
  have hxm : (x0 : Int) < (G.m.2.2.length : Int) := by omega
  obtain ⟨R, hR⟩ : ∃ R, G.m.2.2[x0]? = some R := ⟨_, List.getElem?_eq_getElem (by omega)⟩
  have eR : Hid (atR G.m.2.2 (prd (G.x ts)) = R) := by
    show _ = _
    rw [ex.out, prd_in (by omega), show (x0 : Int) + 1 - 1 = x0 by omega]
    unfold atR; rw [inb_yes (by omega) hxm]; simp [List.getD, hR]
  obtain ⟨mb, mo, hma, _, mc⟩ := HV.out.m.1.one hR
  unfold Mr.cell at mc
  have HRk := hide' (HV.out.r R (List.mem_of_getElem? hR))
  have Dz : Hid ((R.l.length : Int) < (y0 : Int) + 1 → G.dec ts to ta = false) := fun q => dec_y (by rw [eR.out, ey.out]; exact prd_gt q)
  rw [hma] at e5
  have hml : Hid (G.m.2.2[x0]? = some R ∧ G.m.1 = some ⟨mb, mo, none⟩) := ⟨hR, hma⟩
  rw [hma]
  clear hR hma
  by_cases c : (R.l.length : Int) < (y0 : Int) + 1
  · have KF : Hid (G.dec ts to ta = false) := Dz.out c
    clear Dz ex ey Ed
    go_wp2_with fail
    go_ret
    exact ⟨by rw [KF.out]; rfl, B0.out.b⟩
  have hyl : (y0 : Int) < (R.l.length : Int) := by omega
  obtain ⟨m, hm⟩ : ∃ m, R.l[y0]? = some m := ⟨_, List.getElem?_eq_getElem (by omega)⟩
  have em : Hid (G.k ts to = m) := by
    show _ = _
    unfold Gf.k
    rw [eR.out, ey.out, prd_in (by omega), show (y0 : Int) + 1 - 1 = y0 by omega]
    unfold atN; rw [inb_yes (by omega) hyl]; simp [List.getD, hm]
  obtain ⟨rb, ro, hra, _, rc⟩ := HRk.out.1.1.one hm
  have hm6 : (m : Int) < 65536 := by have := HRk.out.2 m (List.mem_of_getElem? hm); omega
  have KD : Hid (G.dec ts to ta = ((m : Int) / 2 ^ k % 2 == 1)) := by
    show _ = _
    rw [Ed.out, em.out]
    exact bit_and m k (by omega)
  have hra' : R.ro = some ⟨rb, ro, none⟩ := hra
  rw [hra'] at mc
  have hrl := hide' hra'
  clear Dz ex ey Ed em eR hm hra hra'
  have H6 := hide' hm6
  clear hm6
  go_wp2_with (with_reducible refine stay_ld 26 (.tmp 89) rfl ?_)
  unfold Stay
  have hm6 := H6.out
  go_wp2_with fail
  generalize decide ((i : Int) < 0) = d1
  generalize decide ((j : Int) < 0) = d2
  generalize decide ((k : Int) < 0) = d3
  generalize decide (15 < (k : Int)) = d4
  generalize decide (G.f.2.2.length ≤ i) = d5
  generalize decide (G.n.2.2.length ≤ j) = d6
  generalize decide ((x0 : Int) + 1 < 1) = d7
  generalize decide ((G.m.2.2.length : Int) < (x0 : Int) + 1) = d8
  generalize decide ((y0 : Int) + 1 < 1) = d9
  generalize decide ((R.l.length : Int) < (y0 : Int) + 1) = d10
  clear m0 m1 m2 c rx ry lm hxm hyl hrl
  go_loop [10, 11] (fun mv nv => ∃ n : Nat, n ≤ k ∧ nv = .int .i64 (n : Int) ∧ mv = .int .i64 ((m : Int) / 2 ^ n)) (fun _ nv => k - (intOf nv).toNat)
  case atStart => exact ⟨0, Nat.zero_le _, rfl, by simp⟩
  case round =>
    obtain ⟨n, hn, rfl, rfl⟩ := hrel
    have hp : 0 ≤ (m : Int) / 2 ^ n ∧ (m : Int) / 2 ^ n < 65536 := by
      have e : (m : Int) / 2 ^ n = ((m / 2 ^ n : Nat) : Int) := by simp
      have := Nat.div_le_self m (2 ^ n)
      rw [e]
      clear e
      generalize (m / 2 ^ n : Nat) = q at this ⊢
      omega
    by_cases hlt : n < k
    · have hlt' : (n : Int) < (k : Int) := by omega
      have HS := hide' (half_pow (m : Int) n (by omega))
      obtain ⟨z, hz⟩ : ∃ z, z = (m : Int) / 2 ^ n := ⟨_, rfl⟩
      rw [← hz] at hp HS
      rw [← hz]
      clear hz
      have hp1 := hp.1
      have hp2 := hp.2
      go_wp2
      exact ⟨⟨n + 1, by omega, by go_num, by rw [← HS.out]⟩, by simp [intOf]; omega⟩
    · have hnk : n = k := by omega
      subst hnk
      have hlt' : ¬ (n : Int) < (n : Int) := by omega
      obtain ⟨z, hz⟩ : ∃ z, z = (m : Int) / 2 ^ n := ⟨_, rfl⟩
      rw [← hz] at hp KD
      rw [← hz]
      clear hz
      have hp1 := hp.1
      have hp2 := hp.2
      go_wp2
      go_ret
      exact ⟨by rw [KD.out]; rfl, B0.out.b⟩
end D
end Go.Proofs.Ytdicddoodagnmaa
