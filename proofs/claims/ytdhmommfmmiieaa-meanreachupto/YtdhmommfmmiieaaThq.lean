import Derived.Test.YtdhmommfmmiieaaKQ
import Derived.Test.YtdhmommfmmiieaaMtc
set_option linter.unusedVariables false
set_option linter.unusedSimpArgs false
namespace Go.Proofs.Ytdhmommfmmiieaa
open Go.RowKit Go.Maps
namespace U
/-- a policy and a triple in boxes, as they came -/
structure Bq (F : Pf) (t : X.K3) (q2 q3 : Nat) (w V : World) : Prop where
  b : Below w.heap.size w V
  h2 : V.heap[q2]? = some (.cells F.arr 34 (0, 0))
  h3 : V.heap[q3]? = some (.cells #[.string t.1, .string t.2.1, .string t.2.2] 36 (0, 0))
theorem Bq.below {F : Pf} {t : X.K3} {q2 q3 : Nat} {w V V' : World} (h : Bq F t q2 q3 w V) (b : Below V.heap.size V V') : Bq F t q2 q3 w V' := ⟨h.b.trans (b.mono h.b.size), (b.block _ (lt_of_heap h.h2)).trans h.h2, (b.block _ (lt_of_heap h.h3)).trans h.h3⟩
theorem bq_new (F : Pf) (t : X.K3) (w : World) : Bq F t w.heap.size (w.heap.size + 1) w ((w.alloc (.cells F.arr 34)).alloc (.cells #[.string t.1, .string t.2.1, .string t.2.2] 36)) := by
  have a1 := heap_alloc_new w (.cells F.arr 34)
  have a2 := heap_alloc_new (w.alloc (.cells F.arr 34)) (.cells #[.string t.1, .string t.2.1, .string t.2.2] 36)
  have z1 : (w.alloc (.cells F.arr 34)).heap.size = w.heap.size + 1 := by simp
  rw [z1] at a2
  exact ⟨((Below.refl _ _).alloc (Nat.le_refl _) _).alloc (by simp) _, (Below.heap_alloc _ _ _ (by omega)).trans a1, a2⟩
theorem isIn_grow {l : List ByteArray} {k : Nat} {z t : ByteArray} (hz : l[k]? = some z) : isIn (l.take (k + 1)) t = (isIn (l.take k) t || decide (z = t)) := by
  have e0 : l.take (k + 1) = l.take k ++ [z] := by rw [List.take_add_one, hz]; rfl
  rw [e0]
  by_cases h : t ∈ l.take k
  · rw [isIn_yes h, isIn_yes (List.mem_append_left _ h)]; rfl
  · rw [isIn_no h, Bool.false_or]
    by_cases e : z = t
    · rw [decide_eq_true e, isIn_yes (List.mem_append_right _ (by rw [e]; exact List.mem_singleton.2 rfl))]
    · rw [decide_eq_false e, isIn_no]
      intro q
      rcases List.mem_append.1 q with q | q
      · exact h q
      · exact e (List.mem_singleton.1 q).symm
/-- are a triple's names there? -/
def thr (F : Pf) (t : X.K3) : Bool := isIn (F.s.2.2.map (·.1)) t.1 && isIn F.o.2.2 t.2.1 && isIn F.a.2.2 t.2.2
set_option maxRecDepth 100000 in
set_option maxHeartbeats 8000000 in
theorem there_any (F : Pf) (t : X.K3) (w : World) (h : F.In w) (hs : F.Small) : Calls Try.prog 42 #[.agg F.arr, .agg #[.string t.1, .string t.2.1, .string t.2.2]] w fun e w' => e = .returned (.bool (thr F t)) ∧ Below w.heap.size w w' := by
  have H := hide' h
  have hsl : (F.s.2.2.length : Int) ≤ 1048576 := by have := hs.s; omega
  have hol : (F.o.2.2.length : Int) ≤ 1048576 := by have := hs.o; omega
  have hal : (F.a.2.2.length : Int) ≤ 1048576 := by have := hs.a; omega
  have csl := h.s.2.1
  have col := h.o.2.1
  have cal := h.a.2.1
  clear h hs
  go_enter Try.func42, Try.ntmps42
  go_wp2_with fail
  have B0 := hide' (bq_new F t w)
  generalize (w.alloc (.cells F.arr 34)).alloc (.cells #[.string t.1, .string t.2.1, .string t.2.2] 36) = V at *
  obtain ⟨q2, hq2⟩ : ∃ q2, q2 = w.heap.size := ⟨_, rfl⟩
  generalize hq3 : w.heap.size + 1 = q3 at *
  rw [← hq2] at B0
  rw [← hq2]
  clear hq2 hq3
  obtain ⟨sn, hsn⟩ : ∃ sn, sn = F.s.2.2.map (·.1) := ⟨_, rfl⟩
  have Hsn := hide' hsn
  have hsnl : Hid (sn.length = F.s.2.2.length) := by show _ = _; rw [hsn, List.length_map]
  clear hsn
  go_loopw [5, 8] (fun sv iv wx => ∃ i : Nat, iv = .int .i64 (i : Int) ∧ i ≤ F.s.2.2.length ∧ sv = .bool (isIn (sn.take i) t.1) ∧ Hid (Bq F t q2 q3 w wx)) (fun _ iv _ => F.s.2.2.length - (intOf iv).toNat)
  case atStart => exact ⟨0, rfl, Nat.zero_le _, by simp [isIn], B0⟩
  case round =>
    obtain ⟨i, rfl, hi, rfl, UU⟩ := hrel
    clear B0
    have e2 : wr.cell? ⟨q2, 1, none⟩ = some (.slice F.s.1 F.s.2.2.length F.s.2.1) := by rw [Lib.cell_of_heap UU.out.h2]; rfl
    by_cases hlt : i < F.s.2.2.length
    · have hlt' : (i : Int) < (F.s.2.2.length : Int) := by omega
      obtain ⟨z, hz⟩ : ∃ z, F.s.2.2[i]? = some z := ⟨_, List.getElem?_eq_getElem hlt⟩
      have hzn : sn[i]? = some z.1 := by rw [Hsn.out, List.getElem?_map, hz]; rfl
      obtain ⟨y, off, hy, hyl, d1, d2⟩ := (H.out.below UU.out.b).s.1.at hz
      have f1 : wr.cell? ⟨q3, 0, none⟩ = some (.string t.1) := by rw [Lib.cell_of_heap UU.out.h3]; rfl
      have IG := hide' (isIn_grow (t := t.1) hzn)
      rw [hy] at e2
      have Hy := hide' hy
      clear hz hzn hy hyl
      cases hb : isIn (sn.take i) t.1 with
      | true =>
        rw [hb, Bool.true_or] at IG
        clear hb
        go_wp2_with fail
        go_quiet (fail)
        go_wp2_with fail
        exact ⟨⟨i + 1, by go_num, by omega, by rw [IG.out], UU.out.below (bdrew wr nq)⟩, by simp [intOf]; omega⟩
      | false =>
        rw [hb, Bool.false_or] at IG
        clear hb
        by_cases e : z.1 = t.1
        · have g1 : (z.1.toList == t.1.toList) = true := by rw [e]; exact text_eq _
          rw [decide_eq_true e] at IG
          clear e
          go_wp2_with fail
          go_quiet (fail)
          go_wp2_with fail
          exact ⟨⟨i + 1, by go_num, by omega, by rw [IG.out], UU.out.below (bdrew wr nq)⟩, by simp [intOf]; omega⟩
        · have g1 : (z.1.toList == t.1.toList) = false := text_ne e
          rw [decide_eq_false e] at IG
          clear e
          go_wp2_with fail
          go_quiet (fail)
          go_wp2_with fail
          exact ⟨⟨i + 1, by go_num, by omega, by rw [IG.out], UU.out.below (bdrew wr nq)⟩, by simp [intOf]; omega⟩
    · have hk : i = F.s.2.2.length := by omega
      have hlt' : ¬ (i : Int) < (F.s.2.2.length : Int) := by omega
      rw [show sn.take i = sn from List.take_of_length_le (by have := hsnl.out; omega)]
      clear hk hlt hi
      have UV := UU
      clear UU
      go_wp2_with fail
      clear e2 hlt'
      go_loopw [6, 9] (fun sv iv wx => ∃ i : Nat, iv = .int .i64 (i : Int) ∧ i ≤ F.o.2.2.length ∧ sv = .bool (isIn (F.o.2.2.take i) t.2.1) ∧ Hid (Bq F t q2 q3 w wx)) (fun _ iv _ => F.o.2.2.length - (intOf iv).toNat)
      case atStart => exact ⟨0, rfl, Nat.zero_le _, by simp [isIn], UV⟩
      case round =>
        obtain ⟨i, rfl, hi, rfl, UU⟩ := hrel
        clear UV
        have e2 : wr.cell? ⟨q2, 3, none⟩ = some (.slice F.o.1 F.o.2.2.length F.o.2.1) := by rw [Lib.cell_of_heap UU.out.h2]; rfl
        by_cases hlt : i < F.o.2.2.length
        · have hlt' : (i : Int) < (F.o.2.2.length : Int) := by omega
          obtain ⟨z, hz⟩ : ∃ z, F.o.2.2[i]? = some z := ⟨_, List.getElem?_eq_getElem hlt⟩
          obtain ⟨y, off, hy, hyl, d1⟩ := (H.out.below UU.out.b).o.1.at hz
          have f1 : wr.cell? ⟨q3, 1, none⟩ = some (.string t.2.1) := by rw [Lib.cell_of_heap UU.out.h3]; rfl
          have IG := hide' (isIn_grow (t := t.2.1) hz)
          rw [hy] at e2
          have Hy := hide' hy
          clear hz hy hyl
          cases hb : isIn (F.o.2.2.take i) t.2.1 with
          | true =>
            rw [hb, Bool.true_or] at IG
            clear hb
            go_wp2_with fail
            go_quiet (fail)
            go_wp2_with fail
            exact ⟨⟨i + 1, by go_num, by omega, by rw [IG.out], UU.out.below (bdrew wr nq)⟩, by simp [intOf]; omega⟩
          | false =>
            rw [hb, Bool.false_or] at IG
            clear hb
            by_cases e : z = t.2.1
            · have g1 : (z.toList == (t.2.1).toList) = true := by rw [e]; exact text_eq _
              rw [decide_eq_true e] at IG
              clear e
              go_wp2_with fail
              go_quiet (fail)
              go_wp2_with fail
              exact ⟨⟨i + 1, by go_num, by omega, by rw [IG.out], UU.out.below (bdrew wr nq)⟩, by simp [intOf]; omega⟩
            · have g1 : (z.toList == (t.2.1).toList) = false := text_ne e
              rw [decide_eq_false e] at IG
              clear e
              go_wp2_with fail
              go_quiet (fail)
              go_wp2_with fail
              exact ⟨⟨i + 1, by go_num, by omega, by rw [IG.out], UU.out.below (bdrew wr nq)⟩, by simp [intOf]; omega⟩
        · have hk : i = F.o.2.2.length := by omega
          have hlt' : ¬ (i : Int) < (F.o.2.2.length : Int) := by omega
          rw [show F.o.2.2.take i = F.o.2.2 from List.take_of_length_le (by omega)]
          clear hk hlt hi
          have UV := UU
          clear UU
          go_wp2_with fail
          clear e2 hlt'
          go_loopw [7, 10] (fun sv iv wx => ∃ i : Nat, iv = .int .i64 (i : Int) ∧ i ≤ F.a.2.2.length ∧ sv = .bool (isIn (F.a.2.2.take i) t.2.2) ∧ Hid (Bq F t q2 q3 w wx)) (fun _ iv _ => F.a.2.2.length - (intOf iv).toNat)
          case atStart => exact ⟨0, rfl, Nat.zero_le _, by simp [isIn], UV⟩
          case round =>
            obtain ⟨i, rfl, hi, rfl, UU⟩ := hrel
            clear UV
            have e2 : wr.cell? ⟨q2, 0, none⟩ = some (.slice F.a.1 F.a.2.2.length F.a.2.1) := by rw [Lib.cell_of_heap UU.out.h2]; rfl
            by_cases hlt : i < F.a.2.2.length
            · have hlt' : (i : Int) < (F.a.2.2.length : Int) := by omega
              obtain ⟨z, hz⟩ : ∃ z, F.a.2.2[i]? = some z := ⟨_, List.getElem?_eq_getElem hlt⟩
              obtain ⟨y, off, hy, hyl, d1⟩ := (H.out.below UU.out.b).a.1.at hz
              have f1 : wr.cell? ⟨q3, 2, none⟩ = some (.string t.2.2) := by rw [Lib.cell_of_heap UU.out.h3]; rfl
              have IG := hide' (isIn_grow (t := t.2.2) hz)
              rw [hy] at e2
              have Hy := hide' hy
              clear hz hy hyl
              cases hb : isIn (F.a.2.2.take i) t.2.2 with
              | true =>
                rw [hb, Bool.true_or] at IG
                clear hb
                go_wp2_with fail
                go_quiet (fail)
                go_wp2_with fail
                exact ⟨⟨i + 1, by go_num, by omega, by rw [IG.out], UU.out.below (bdrew wr nq)⟩, by simp [intOf]; omega⟩
              | false =>
                rw [hb, Bool.false_or] at IG
                clear hb
                by_cases e : z = t.2.2
                · have g1 : (z.toList == (t.2.2).toList) = true := by rw [e]; exact text_eq _
                  rw [decide_eq_true e] at IG
                  clear e
                  go_wp2_with fail
                  go_quiet (fail)
                  go_wp2_with fail
                  exact ⟨⟨i + 1, by go_num, by omega, by rw [IG.out], UU.out.below (bdrew wr nq)⟩, by simp [intOf]; omega⟩
                · have g1 : (z.toList == (t.2.2).toList) = false := text_ne e
                  rw [decide_eq_false e] at IG
                  clear e
                  go_wp2_with fail
                  go_quiet (fail)
                  go_wp2_with fail
                  exact ⟨⟨i + 1, by go_num, by omega, by rw [IG.out], UU.out.below (bdrew wr nq)⟩, by simp [intOf]; omega⟩
            · have hk : i = F.a.2.2.length := by omega
              have hlt' : ¬ (i : Int) < (F.a.2.2.length : Int) := by omega
              rw [show F.a.2.2.take i = F.a.2.2 from List.take_of_length_le (by omega)]
              clear hk hlt hi
              have UV := UU
              clear UU
              obtain ⟨v1, h1⟩ : ∃ v1, v1 = isIn sn t.1 := ⟨_, rfl⟩
              obtain ⟨v2, h2⟩ : ∃ v2, v2 = isIn F.o.2.2 t.2.1 := ⟨_, rfl⟩
              obtain ⟨v3, h3⟩ : ∃ v3, v3 = isIn F.a.2.2 t.2.2 := ⟨_, rfl⟩
              have KT : Hid (thr F t = (v1 && v2 && v3)) := by show _ = _; unfold thr; rw [h1, h2, h3, Hsn.out]
              rw [← h1, ← h2, ← h3]
              clear h1 h2 h3
              cases v1 <;> cases v2 <;> cases v3
              all_goals (go_wp2_with fail; go_ret; exact ⟨by rw [KT.out]; rfl, UV.out.b⟩)
theorem mtc_call (F : Pf) (N : Nat) (R : Ru) (bv : Bool) (ts to ta : ByteArray) (w : World) (h : F.In w) (f : Fine F N) (hb : R.d = .bool bv) (hr : Ok3 S.Ints (R.ro, R.rc, R.rl) w) (hz : ts.size ≤ 1048576 ∧ to.size ≤ 1048576 ∧ R.who.size ≤ 1048576 ∧ R.what.size ≤ 1048576 ∧ R.rl.length ≤ 1048576) :
    Calls Try.prog 19 #[.agg F.arr, .agg #[.bool bv, .string R.who, .string R.what, .slice R.ro R.rl.length R.rc, .int .i8 R.cd, .float .f64 R.lv], .agg #[.string ts, .string to, .string ta]] w fun e w' => e = .returned (.bool (mtc F.po R ts to ta)) ∧ Below w.heap.size w w' := by
  have q := matches_any F.po R ts to ta w h.po f.po hr.1 hr.2.1 hz
  unfold Ru.val at q
  rw [hb] at q
  exact q
theorem tru_no {sl : List Sb} {z : ByteArray} (h : isIn (sl.map (·.1)) z = false) : tru sl z = none := by
  unfold tru
  rw [List.find?_eq_none.2 (fun u hu => ?_)]
  · rfl
  · simp only [decide_eq_true_eq]
    intro e
    rw [isIn_yes (List.mem_map.2 ⟨u, hu, e⟩)] at h
    cases h
theorem mtc_thr {F : Pf} {t : X.K3} (h : thr F t = false) (R : Ru) : mtc F.po R t.1 t.2.1 t.2.2 = false := by
  unfold thr at h
  unfold mtc
  show (isIn F.a.2.2 t.2.2 && _ && (match tru F.s.2.2 t.1 with | some t' => _ | none => false) && _) = false
  cases h1 : isIn (F.s.2.2.map (·.1)) t.1 with
  | false => rw [tru_no h1]; simp
  | true =>
    rw [h1] at h
    cases h2 : isIn F.a.2.2 t.2.2 with
    | false => simp
    | true =>
      rw [h2] at h
      have h3 : isIn F.o.2.2 t.2.1 = false := by simpa using h
      show (_ && (isIn F.o.2.2 t.2.1 && _)) = false
      rw [h3]
      simp
theorem alw_thr {F : Pf} {t : X.K3} (h : thr F t = false) : alw F t.1 t.2.1 t.2.2 = false := by
  have e : rany F t.1 t.2.1 t.2.2 false F.u.2.2 = false := by
    unfold rany
    rw [List.any_eq_false]
    intro R _
    unfold rsay
    rw [mtc_thr h]
    simp
  unfold alw
  rw [e]
  rfl
end U
end Go.Proofs.Ytdhmommfmmiieaa
