import Derived.Test.YtnlopepbcnegbaaGreatDoorGoA
set_option linter.unusedVariables false
set_option linter.unusedSimpArgs false
namespace Go.Proofs.YtnlopepbcnegbaaGreatDoor
open Go.RowKit
theorem flt_form (f : Option Flw) : ∃ (c l k : Int) (word : ByteArray), fltV f = .agg #[.int .i64 c, .int .i64 l, .int .i64 k, .string word] ∧ (∀ v, wentV v f false = .agg #[v, .int .i64 c, .int .i64 l, .int .i64 k, .string word, .bool false]) ∧ (c ≠ 0 → f.isSome = true) ∧ (f = none → c = 0) := by
  cases f with
  | none => exact ⟨0, 0, 0, ⟨#[]⟩, rfl, fun v => rfl, fun h => absurd rfl h, fun _ => rfl⟩
  | some f => exact ⟨_, _, _, _, rfl, fun v => rfl, fun _ => rfl, fun h => by cases h⟩
theorem rd_form {v : Value} {xs : List Tkn} {w : World} (h : Rd v xs w) : ∃ ao cap, v = .slice ao xs.length cap ∧ xs.length ≤ cap := by
  obtain ⟨ao, cap, h1, h2, _⟩ := h
  exact ⟨ao, cap, h1, h2⟩
/-- two things gone over, apart -/
theorem wents_new (w : World) (a b : Obj) : ((w.alloc a).alloc b).heap[w.heap.size]? = some a ∧ ((w.alloc a).alloc b).heap[w.heap.size + 1]? = some b ∧ Below w.heap.size w ((w.alloc a).alloc b) := by
  have h := heap_alloc_new (w.alloc a) b
  have e : (w.alloc a).heap.size = w.heap.size + 1 := by simp
  rw [e] at h
  exact ⟨(Below.heap_alloc _ _ _ (by simp)).trans (heap_alloc_new _ _), h, ((Below.refl _ _).alloc (Nat.le_refl _) _).alloc (by simp) _⟩
set_option maxHeartbeats 8000000 in
set_option maxRecDepth 100000 in
theorem law_any (s : ByteArray) (most : Int) (w : World) (r : List Tkn × Option Flw) (hm : -9223372036854775808 ≤ most ∧ most ≤ 9223372036854775807) (hg0 : w.cell? ⟨0, 0, none⟩ = some (ty 29)) (hl : r.1.length ≤ 69000) (hcode : ∀ x, r.2 = some x → x.1 ≠ 0)
    (hcut : ∀ W, Calls Tryz.prog 13 #[.string s] W fun e w' => ∃ sv, e = .returned (.tuple #[sv, fltV r.2]) ∧ w'.ownsRow W.heap.size 52 4 sv r.1.length (r.1.flatMap cells4) ∧ Below W.heap.size W w')
    (hgoes : ∀ W, W.cell? ⟨0, 0, none⟩ = some (ty 29) → Calls Tryz.prog 14 #[.string s, .int .i64 most] W fun e w' => ∃ va vb, e = .returned (.tuple #[wentV va (if 0 < most then took r most.toNat else ([], none)).2 false, wentV vb r.2 false]) ∧
      Rd va (if 0 < most then took r most.toNat else ([], none)).1 w' ∧ Rd vb r.1 w' ∧ Below W.heap.size W w') :
    Calls Tryz.prog 4 #[.string s, .int .i64 most] w fun e w' => e = .returned (.bool true) ∧ Below w.heap.size w w' := by
  obtain ⟨rt, rf⟩ := r
  simp only at hl hcode hcut hgoes
  obtain ⟨q, hq⟩ : ∃ q, q = (if 0 < most then took (rt, rf) most.toNat else ([], none)) := ⟨_, rfl⟩
  rw [← hq] at hgoes
  obtain ⟨qt, qf⟩ := q
  simp only at hgoes
  obtain ⟨c, l, k, wo, f1, f2, f3, f4⟩ := flt_form rf
  obtain ⟨ac, al, ak, aw, g1, g2, g3, g4⟩ := flt_form qf
  have hc0 : rf.isSome = true → c ≠ 0 := by
    intro h
    cases rf with
    | none => cases h
    | some x =>
      have := hcode x rfl
      simp [fltV] at f1
      rw [← f1.1]; exact this
  simp only [f1, f2, g2] at hcut hgoes
  have Hq := hide' (And.intro hq (And.intro f1 (And.intro f3 (And.intro f4 (And.intro g1 (And.intro g3 (And.intro g4 hc0)))))))
  have Hcut := hide' hcut
  have Hgoes := hide' hgoes
  have HG := hide' (And.intro hg0 hl)
  clear hq f1 f2 f3 f4 g1 g2 g3 g4 hc0 hcut hgoes hg0 hl hcode
  go_enter Tryz.func4, Tryz.ntmps4
  go_upto_region 3 with (first | (go_at_call 13; refine (Hcut.out _).mono ?_; rintro e w1 ⟨sv, rfl, r1, b1⟩; have r1' := rd_row r1; obtain ⟨os, cs, rfl, hcs⟩ := rd_form r1'; have H1 := hide' (And.intro r1' (And.intro b1 hcs)); clear r1 r1' b1 hcs) | (go_at_call 14; refine (Hgoes.out _ ((World.cell?_alloc_lt _ _ _ (lt_of_cell ((H1.out.2.1.cell (p := ⟨0, 0, none⟩) (lt_of_cell HG.out.1)).trans HG.out.1))).trans ((H1.out.2.1.cell (p := ⟨0, 0, none⟩) (lt_of_cell HG.out.1)).trans HG.out.1))).mono ?_; rintro e w2 ⟨va, vb, rfl, r2, r3, b2⟩; obtain ⟨oa, ca, rfl, hca⟩ := rd_form r2; obtain ⟨ob, cbb, rfl, hcb⟩ := rd_form r3; have H2 := hide' (And.intro r2 (And.intro r3 b2)); clear r2 r3 b2 hca hcb))
  obtain ⟨Wn, hWn⟩ : ∃ W, W = (w2.alloc (.cells #[.slice oa qt.length ca, .int .i64 ac, .int .i64 al, .int .i64 ak, .string aw, .bool false] 39)).alloc (.cells #[.slice ob rt.length cbb, .int .i64 c, .int .i64 l, .int .i64 k, .string wo, .bool false] 39) := ⟨_, rfl⟩
  obtain ⟨k7, k8, bn⟩ := wents_new w2 (.cells #[.slice oa qt.length ca, .int .i64 ac, .int .i64 al, .int .i64 ak, .string aw, .bool false] 39) (.cells #[.slice ob rt.length cbb, .int .i64 c, .int .i64 l, .int .i64 k, .string wo, .bool false] 39)
  rw [← hWn] at k7 k8 bn ⊢
  have ba : Below w1.heap.size w1 (w1.alloc (.cells #[.int .i64 c, .int .i64 l, .int .i64 k, .string wo] 25)) := (Below.refl _ _).alloc (Nat.le_refl _) _
  have k6 := (bn.block w1.heap.size (by have := H2.out.2.2.size; simp at this; omega)).trans ((H2.out.2.2.block w1.heap.size (by simp)).trans (heap_alloc_new w1 (.cells #[.int .i64 c, .int .i64 l, .int .i64 k, .string wo] 25)))
  have R1 : Rd (.slice os rt.length cs) rt Wn := ((H1.out.1.below ba).below H2.out.2.2).below bn
  have R2 := H2.out.1.below bn
  have R3 := H2.out.2.1.below bn
  have bAll : Below w.heap.size w Wn := ((H1.out.2.1.trans (ba.mono H1.out.2.1.size)).trans (H2.out.2.2.mono (by have := H1.out.2.1.size; simp; omega))).trans (bn.mono (by have := H1.out.2.1.size; have := H2.out.2.2.size; simp at this; omega))
  obtain ⟨b6, hb6⟩ : ∃ b, b = w1.heap.size := ⟨_, rfl⟩
  obtain ⟨b7, hb7⟩ : ∃ b, b = w2.heap.size := ⟨_, rfl⟩
  obtain ⟨b8, hb8⟩ : ∃ b, b = w2.heap.size + 1 := ⟨_, rfl⟩
  rw [← hb6] at k6
  rw [← hb7] at k7
  rw [← hb8] at k8
  rw [← hb6, ← hb8, ← hb7]
  clear hWn hb6 hb7 hb8 bn ba
  obtain ⟨x0, x1, x2, x3, _⟩ := Tk.of_cells k6
  obtain ⟨y0, y1, y2, y3, y4, y5, _⟩ := six_cells k7
  obtain ⟨z0, z1, z2, z3, z4, z5, _⟩ := six_cells k8
  have HK := hide' (And.intro k6 (And.intro k7 (And.intro k8 bAll)))
  have HR := hide' (And.intro R1 (And.intro R2 R3))
  clear k6 k7 k8 bAll R1 R2 R3
  have HS := hide' (fun W (b : Below Wn.heap.size Wn W) => same_any (HR.out.2.2.below b) (HR.out.1.below b) (by have := HG.out.2; omega))
  go_upto_region 5 with (go_at_call 12; refine (HS.out _ (Below.refl _ _)).mono ?_; rintro e w4 ⟨rfl, b4⟩)
  have k6 := (b4.block b6 (Array.getElem?_eq_some_iff.1 HK.out.1).1).trans HK.out.1
  have k7 := (b4.block b7 (Array.getElem?_eq_some_iff.1 HK.out.2.1).1).trans HK.out.2.1
  have R1 := HR.out.1.below b4
  have R2 := HR.out.2.1.below b4
  have bAll := HK.out.2.2.2.trans (b4.mono HK.out.2.2.2.size)
  clear x0 x1 x2 x3 y0 y1 y2 y3 y4 y5 z0 z1 z2 z3 z4 z5
  obtain ⟨x0, x1, x2, x3, _⟩ := Tk.of_cells k6
  obtain ⟨y0, y1, y2, y3, y4, y5, _⟩ := six_cells k7
  have HX := hide' (And.intro R1 (And.intro R2 bAll))
  clear k6 k7 R1 R2 bAll b4 HS
  have hlen := HG.out.2
  have hcs := H1.out.2.2
  obtain ⟨M, hM⟩ : ∃ M : Nat, M = rt.length + one? rf := ⟨_, rfl⟩
  have fin : Hid (∀ W, Below w4.heap.size w4 W → Below w.heap.size w W) := hide' (fun W b => HX.out.2.2.trans (b.mono HX.out.2.2.size))
  have Hfull : Hid ((M : Int) ≤ most → qt = rt ∧ ac = c ∧ al = l ∧ ak = k ∧ aw = wo) := hide' (fun h => by
    obtain ⟨h1, h2, h3, h4, h5, h6, h7, h8⟩ := Hq.out
    have hqq : (qt, qf) = (rt, rf) := by
      rw [h1]
      by_cases h0 : 0 < most
      · rw [if_pos h0]; unfold took; rw [if_pos (by simp only; omega)]
      · rw [if_neg h0]
        have hr : rt = [] := List.length_eq_zero_iff.1 (by omega)
        have hf : rf = none := by
          cases rf with
          | none => rfl
          | some x => simp [one?] at hM; omega
        rw [hr, hf]
    simp only [Prod.mk.injEq] at hqq
    obtain ⟨rfl, rfl⟩ := hqq
    rw [h2] at h5
    simp at h5
    exact ⟨rfl, h5.1.symm, h5.2.1.symm, h5.2.2.1.symm, h5.2.2.2.symm⟩)
  have Hless : Hid (most < 1 → most < (M : Int) → qt = [] ∧ ac = 0) := hide' (fun h _ => by
    obtain ⟨h1, h2, h3, h4, h5, h6, h7, h8⟩ := Hq.out
    rw [if_neg (by omega)] at h1
    simp only [Prod.mk.injEq] at h1
    exact ⟨h1.1, h7 h1.2⟩)
  have Hmid : Hid (1 ≤ most → most < (M : Int) → qt = rt.take most.toNat ∧ ac = 0 ∧ most.toNat ≤ rt.length) := hide' (fun h h' => by
    obtain ⟨h1, h2, h3, h4, h5, h6, h7, h8⟩ := Hq.out
    rw [if_pos (by omega)] at h1
    unfold took at h1
    rw [if_neg (by simp only; omega)] at h1
    simp only [Prod.mk.injEq] at h1
    refine ⟨h1.1, h7 h1.2, ?_⟩
    have : one? rf ≤ 1 := by unfold one?; split <;> omega
    omega)
  have Hc : Hid ((c = 0 → M = rt.length) ∧ (c ≠ 0 → M = rt.length + 1)) := hide' (by
    obtain ⟨h1, h2, h3, h4, h5, h6, h7, h8⟩ := Hq.out
    refine ⟨fun h => ?_, fun h => ?_⟩
    · cases rf with
      | none => simpa [one?] using hM
      | some x => exact absurd h (h8 rfl)
    · rw [hM]; unfold one?; rw [if_pos (h3 h)])
  clear hM Hq
  by_cases hc : c = 0
  · have hM := Hc.out.1 hc
    have ec : (c == 0) = true := by simpa using hc
    by_cases h1 : (rt.length : Int) ≤ most
    · have e1 : decide ((rt.length : Int) ≤ most) = true := by simpa using h1
      have hmm : (rt.length : Int) = (M : Int) := by rw [hM]
      obtain ⟨rfl, rfl, rfl, rfl, rfl⟩ := Hfull.out (by omega)
      have HS2 := hide' (fun W (b : Below w4.heap.size w4 W) => same_any (HX.out.2.1.below b) (HX.out.1.below b) (by have := HG.out.2; omega))
      clear hc h1 hM hmm hlen hcs
      go_wp2_with (go_at_call 12; refine (HS2.out _ (Below.refl _ _)).mono ?_; rintro e w5 ⟨rfl, b5⟩)
      go_ret
      exact ⟨rfl, fin.out _ b5⟩
    · have e1 : decide ((rt.length : Int) ≤ most) = false := by simpa using h1
      have hmm : (rt.length : Int) = (M : Int) := by rw [hM]
      by_cases h2 : most < 1
      · have e2 : decide (most < 1) = true := by simpa using h2
        obtain ⟨rfl, rfl⟩ := Hless.out h2 (by omega)
        clear hc h1 h2 hM hmm hlen hcs
        go_wp2
        go_ret
        exact ⟨rfl, fin.out _ (Below.refl _ _)⟩
      · have e2 : decide (most < 1) = false := by simpa using h2
        obtain ⟨h3, rfl, h4⟩ := Hmid.out (by omega) (by omega)
        have R3 := HX.out.1.take most.toNat cs h4 (by omega)
        rw [← h3] at R3
        have HS2 := hide' (fun W (b : Below w4.heap.size w4 W) => same_any (HX.out.2.1.below b) (R3.below b) (by rw [h3, List.length_take]; omega))
        have n0 : 0 ≤ most := by omega
        have n1 : most ≤ (cs : Int) := by omega
        have n2 : most.toNat ≤ cs := by omega
        clear hc h1 h2 hM hmm R3 h3
        go_upto_region 12 with fail
        go_region_held3 (fun w' => w'.cell? ⟨b7, 0, none⟩ = some (.slice oa qt.length ca) ∧ w'.cell? ⟨b7, 1, none⟩ = some (.int .i64 0) ∧ Below w4.heap.size w4 w') (first | (exact ⟨y0, y1, below_drew _⟩) | go_keep | (obtain ⟨k1, k2, k3⟩ := ‹_ ∧ _ ∧ _›; exact ⟨below_keeps ‹Below _ _ _› k1, below_keeps ‹Below _ _ _› k2, k3.trans (‹Below _ _ _›.mono k3.size)⟩)) (first | (go_at_call 12; refine (HS2.out _ (by first | assumption | exact below_drew _)).mono ?_; rintro e w5 ⟨rfl, b5⟩))
        go_wp2
        go_ret
        exact ⟨rfl, fin.out _ ((below_drew w4).trans b5)⟩
  · have hM := Hc.out.2 hc
    have ec : (c == 0) = false := by simpa using hc
    have ew : wrap64 ((rt.length : Int) + 1) = ((rt.length + 1 : Nat) : Int) := wk1' (by omega)
    obtain ⟨al1, hal1⟩ : ∃ n, n = ((rt.length + 1 : Nat) : Int) := ⟨_, rfl⟩
    rw [← hal1] at ew
    have Hal := hide' hal1
    have hmm : al1 = (M : Int) := by rw [hal1, hM]
    have Hmm := hide' hmm
    clear hal1 hmm
    by_cases h1 : al1 ≤ most
    · have e1 : decide (al1 ≤ most) = true := by simpa using h1
      have hmm := Hmm.out
      obtain ⟨rfl, rfl, rfl, rfl, rfl⟩ := Hfull.out (by omega)
      have HS2 := hide' (fun W (b : Below w4.heap.size w4 W) => same_any (HX.out.2.1.below b) (HX.out.1.below b) (by have := HG.out.2; omega))
      clear hc h1 hM hmm hlen hcs
      go_wp2_with (go_at_call 12; refine (HS2.out _ (Below.refl _ _)).mono ?_; rintro e w5 ⟨rfl, b5⟩)
      go_ret
      exact ⟨rfl, fin.out _ b5⟩
    · have e1 : decide (al1 ≤ most) = false := by simpa using h1
      have hmm := Hmm.out
      by_cases h2 : most < 1
      · have e2 : decide (most < 1) = true := by simpa using h2
        obtain ⟨rfl, rfl⟩ := Hless.out h2 (by omega)
        clear hc h1 h2 hM hmm hlen hcs
        go_wp2
        go_ret
        exact ⟨rfl, fin.out _ (Below.refl _ _)⟩
      · have e2 : decide (most < 1) = false := by simpa using h2
        obtain ⟨h3, rfl, h4⟩ := Hmid.out (by omega) (by omega)
        have R3 := HX.out.1.take most.toNat cs h4 (by omega)
        rw [← h3] at R3
        have HS2 := hide' (fun W (b : Below w4.heap.size w4 W) => same_any (HX.out.2.1.below b) (R3.below b) (by rw [h3, List.length_take]; omega))
        have n0 : 0 ≤ most := by omega
        have n1 : most ≤ (cs : Int) := by omega
        have n2 : most.toNat ≤ cs := by omega
        clear hc h1 h2 hM hmm R3 h3
        go_upto_region 12 with fail
        go_region_held3 (fun w' => w'.cell? ⟨b7, 0, none⟩ = some (.slice oa qt.length ca) ∧ w'.cell? ⟨b7, 1, none⟩ = some (.int .i64 0) ∧ Below w4.heap.size w4 w') (first | (exact ⟨y0, y1, below_drew _⟩) | go_keep | (obtain ⟨k1, k2, k3⟩ := ‹_ ∧ _ ∧ _›; exact ⟨below_keeps ‹Below _ _ _› k1, below_keeps ‹Below _ _ _› k2, k3.trans (‹Below _ _ _›.mono k3.size)⟩)) (first | (go_at_call 12; refine (HS2.out _ (by first | assumption | exact below_drew _)).mono ?_; rintro e w5 ⟨rfl, b5⟩))
        go_wp2
        go_ret
        exact ⟨rfl, fin.out _ ((below_drew w4).trans b5)⟩
end Go.Proofs.YtnlopepbcnegbaaGreatDoor
