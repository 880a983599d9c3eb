import Derived.Test.YtjmkofdnlhfaiaaAvK
set_option linter.unusedVariables false
set_option linter.unusedSimpArgs false
namespace Go.Proofs.Ytjmkofdnlhfaiaa
open Go.RowKit
namespace C
variable {w w' : World}
theorem lst_mono {t : Tr} {xs : List Act} {j : Nat} : ∀ m, (lst (xs.take j) t).isSome = true → (lst (xs.take (j + m)) t).isSome = true := by
  intro m
  induction m with
  | zero => exact fun h => h
  | succ m ih =>
    intro h
    have := ih h
    by_cases hl : j + m < xs.length
    · rw [show j + (m + 1) = j + m + 1 by omega, List.take_succ_eq_append_getElem hl, lst_add]
      split
      · rfl
      · exact this
    · rw [List.take_of_length_le (by omega)] at this ⊢
      exact this
theorem two_ab (w : World) (x y : Act) : Ab w.heap.size x ((w.alloc (.cells x.arr 45)).alloc (.cells y.arr 45)).drew ∧ Ab (w.heap.size + 1) y ((w.alloc (.cells x.arr 45)).alloc (.cells y.arr 45)).drew ∧ Below w.heap.size w ((w.alloc (.cells x.arr 45)).alloc (.cells y.arr 45)).drew := by
  refine ⟨(Below.heap_alloc _ _ _ (by simp)).trans (heap_alloc_new _ _), ?_, (((Below.refl _ _).alloc (Nat.le_refl _) _).alloc (by simp) _).drew⟩
  have := heap_alloc_new (w.alloc (.cells x.arr 45)) (.cells y.arr 45)
  rw [show (w.alloc (.cells x.arr 45)).heap.size = w.heap.size + 1 by simp] at this
  exact this
set_option maxRecDepth 100000 in
set_option maxHeartbeats 2000000 in
theorem first_any (a : Option Addr) (cap : Nat) (xs : List Act) (k : Nat) (x : Act) (h : Acs w a xs) (hl : xs.length < 4000000000000000000) (hx : xs[k]? = some x) : Calls Try.prog 21 #[.slice a xs.length cap, .int .i64 (k : Int)] w fun e w' => e = .returned (.bool (lst (xs.take k) x.t).isNone) ∧ Below w.heap.size w w' := by
  obtain ⟨R, hR⟩ : ∃ R, R = lst (xs.take k) x.t := ⟨_, rfl⟩
  have HR := hide' hR
  rw [← hR]
  have HS : Hid (Acs w a xs ∧ Below w.heap.size w w) := hide' ⟨h, Below.refl _ _⟩
  have Hl := hide' hl
  have Hkl := hide' (List.getElem?_eq_some_iff.1 hx).1
  have HX := hide' hx
  clear hR h hl hx
  go_enter Try.func21, Try.ntmps21
  go_wp2_with fail
  go_loopw [5] (fun i wx => ∃ j : Nat, j ≤ k ∧ i = .int .i64 (j : Int) ∧ Hid (lst (xs.take j) x.t = none) ∧ Hid (Acs wx a xs ∧ Below w.heap.size w wx)) (fun i _ => k - (intOf i).toNat)
  case atStart => exact ⟨0, by omega, rfl, hide' (by rw [List.take_zero]; rfl), HS⟩
  case round =>
    clear HS
    obtain ⟨j, hj, rfl, HN, HS⟩ := hrel
    by_cases hlt : j < k
    · have hlt' : (j : Int) < (k : Int) := by omega
      have hjl : j < xs.length := by have := Hkl.out; omega
      obtain ⟨y, hy⟩ : ∃ y, xs[j]? = some y := ⟨_, List.getElem?_eq_getElem hjl⟩
      have Hw := hide' (wsucN j (by have := Hl.out; have := Hkl.out; omega))
      have HF : Hid (isP x.t y = true → ∃ z, R = some z) := hide' (fun q => by
        have : (lst (xs.take (j + 1)) x.t).isSome = true := by rw [take_more hy, lst_add, if_pos q]; rfl
        have := lst_mono (k - (j + 1)) this
        rw [show j + 1 + (k - (j + 1)) = k by omega, ← HR.out] at this
        cases hr : R with
        | none => rw [hr] at this; cases this
        | some z => exact ⟨z, rfl⟩)
      have HG : Hid (isP x.t y = false → lst (xs.take (j + 1)) x.t = none) := hide' (fun q => by rw [take_more hy, lst_add, if_neg (by rw [q]; decide)]; exact HN.out)
      obtain ⟨ab, off, rfl, hab, hra⟩ := HS.out.1.at hy
      obtain ⟨ab', off', ea, _, hrx⟩ := HS.out.1.at HX.out
      cases ea
      have y0 := hra 0 _ rfl
      rw [Nat.add_zero] at y0
      have y1 := hra 1 _ rfl
      have y2 := hra 2 _ rfl
      have y3 := hra 3 _ rfl
      have y4 := hra 4 _ rfl
      have y5 := hra 5 _ rfl
      have x0 := hrx 0 _ rfl
      rw [Nat.add_zero] at x0
      have x1 := hrx 1 _ rfl
      have x2 := hrx 2 _ rfl
      have x3 := hrx 3 _ rfl
      have x4 := hrx 4 _ rfl
      have x5 := hrx 5 _ rfl
      have hjl' : (j : Int) < (xs.length : Int) := by omega
      have hkl' : (k : Int) < (xs.length : Int) := by have := Hkl.out; omega
      clear hy hra hrx HN
      go_upto_region 4 with fail
      go_cut [6, 7] (fun p q wx => ∃ yb xb, p = .pointer (some ⟨yb, 0, none⟩) ∧ q = .pointer (some ⟨xb, 0, none⟩) ∧ Hid (Ab yb y wx ∧ Ab xb x wx ∧ Below wr.heap.size wr wx))
      case first =>
        go_region
        all_goals go_wp2
        all_goals go_meet
        · exact ⟨_, _, rfl, rfl, hide' ⟨(two_ab wr y x).1, (two_ab wr y x).2.1, (two_ab wr y x).2.2⟩⟩
        · exact ⟨_, _, rfl, rfl, hide' ⟨(two_ab wr x y).2.1, (two_ab wr x y).1, (two_ab wr x y).2.2⟩⟩
      case rest =>
        clear y0 y1 y2 y3 y4 y5 x0 x1 x2 x3 x4 x5
        obtain ⟨yb, xb, rfl, rfl, HC⟩ := hcut
        have H6 : Hid (Acs wc (some ⟨ab, off, none⟩) xs ∧ Below w.heap.size w wc) := hide' ⟨HS.out.1.below HC.out.2.2, HS.out.2.trans (HC.out.2.2.mono HS.out.2.size)⟩
        have p0 := HC.out.1.c0
        have p2 := HC.out.1.c2
        have p3 := HC.out.1.c3
        have p4 := HC.out.1.c4
        have q2 := HC.out.2.1.c2
        have q3 := HC.out.2.1.c3
        have q4 := HC.out.2.1.c4
        clear HC HS
        by_cases e0 : y.d = 2
        · by_cases e2 : y.t.s = x.t.s
          · by_cases e3 : y.t.o = x.t.o
            · by_cases e4 : y.t.a = x.t.a
              · obtain ⟨z, hz⟩ := HF.out (isP_of e0 (Tr.ext' e2 e3 e4))
                rw [e0] at p0
                rw [e2] at p2
                rw [e3] at p3
                rw [e4] at p4
                have HZ := hide' hz
                clear e0 e2 e3 e4 HF HG hz
                go_wp2
                go_ret
                rw [HZ.out]
                exact ⟨rfl, H6.out.2⟩
              · have HNo := hide' (HG.out (isP_not (fun q => e4 (by rw [q.2]))))
                clear HF HG
                go_wp2
                exact ⟨⟨j + 1, by omega, by rw [Hw.out], HNo, H6⟩, msr' hlt _ (Hw.out.trans (by omega))⟩
            · have HNo := hide' (HG.out (isP_not (fun q => e3 (by rw [q.2]))))
              clear HF HG
              go_wp2
              exact ⟨⟨j + 1, by omega, by rw [Hw.out], HNo, H6⟩, msr' hlt _ (Hw.out.trans (by omega))⟩
          · have HNo := hide' (HG.out (isP_not (fun q => e2 (by rw [q.2]))))
            clear HF HG
            go_wp2
            exact ⟨⟨j + 1, by omega, by rw [Hw.out], HNo, H6⟩, msr' hlt _ (Hw.out.trans (by omega))⟩
        · have HNo := hide' (HG.out (isP_not (fun q => e0 q.1)))
          clear HF HG
          go_wp2
          exact ⟨⟨j + 1, by omega, by rw [Hw.out], HNo, H6⟩, msr' hlt _ (Hw.out.trans (by omega))⟩
    · obtain rfl : j = k := by omega
      have HZ : Hid (R = none) := hide' (by rw [HR.out]; exact HN.out)
      clear HN HR
      go_wp2
      go_ret
      rw [HZ.out]
      exact ⟨rfl, HS.out.2⟩
end C
end Go.Proofs.Ytjmkofdnlhfaiaa
