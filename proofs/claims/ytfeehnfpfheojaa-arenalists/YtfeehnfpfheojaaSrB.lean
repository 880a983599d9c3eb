import Derived.Test.YtfeehnfpfheojaaShelf
import Derived.Test.YtfeehnfpfheojaaMore
import Derived.Shelf.SlSortCmp.WholeK
set_option linter.unusedVariables false
set_option linter.unusedSimpArgs false
namespace Go.Proofs.Ytfeehnfpfheojaa
open Go.RowKit Go.Sort
namespace Fr
instance : Inhabited Bk := ⟨z0⟩
theorem isNaN_any (x : Int) (w : World) : Calls Try.prog 102 #[.int .i64 x] w fun e w' => e = .returned (.bool false) ∧ w' = w := by
  go_enter Try.func102, Try.ntmps102
  go_wp2
  go_ret
  exact ⟨by simp, rfl⟩
set_option maxRecDepth 100000 in
theorem compare_any (x y : Int) (w : World) : Calls Try.prog 82 #[.int .i64 x, .int .i64 y] w fun e w' => e = .returned (.int .i64 (Lib.compareInt x y)) ∧ w' = w := by
  have H1 := hide' (isNaN_any x w)
  have H2 := hide' (isNaN_any y w)
  unfold Lib.compareInt
  by_cases h1 : x < y
  · rw [if_pos h1]
    go_enter Try.func82, Try.ntmps82
    go_wp2_with fail
    refine H1.out.mono ?_
    rintro e w1 ⟨rfl, hw⟩
    replace hw := hw.symm
    subst hw
    go_wp2_with fail
    refine H2.out.mono ?_
    rintro e w1 ⟨rfl, hw⟩
    replace hw := hw.symm
    subst hw
    go_wp2
    go_ret
    exact ⟨rfl, rfl⟩
  · by_cases h2 : x > y
    · rw [if_neg h1, if_pos h2]
      go_enter Try.func82, Try.ntmps82
      go_wp2_with fail
      refine H1.out.mono ?_
      rintro e w1 ⟨rfl, hw⟩
      replace hw := hw.symm
      subst hw
      go_wp2_with fail
      refine H2.out.mono ?_
      rintro e w1 ⟨rfl, hw⟩
      replace hw := hw.symm
      subst hw
      go_wp2
      go_ret
      exact ⟨rfl, rfl⟩
    · rw [if_neg h1, if_neg h2]
      have h1' : decide (x < y) = false := by simpa using h1
      have h2' : decide (y < x) = false := by simpa using h2
      go_enter Try.func82, Try.ntmps82
      go_wp2_with fail
      refine H1.out.mono ?_
      rintro e w1 ⟨rfl, hw⟩
      replace hw := hw.symm
      subst hw
      go_wp2_with fail
      refine H2.out.mono ?_
      rintro e w1 ⟨rfl, hw⟩
      replace hw := hw.symm
      subst hw
      go_wp2
      go_ret
      exact ⟨rfl, rfl⟩
def cfB (x y : Bk) : Int := Lib.compareInt x.addr y.addr
set_option maxRecDepth 100000 in
theorem closure81 (x y : Bk) (W : World) : Calls Try.prog 81 #[.agg #[.int .i64 x.addr, .int .i64 x.size, .bool x.free], .agg #[.int .i64 y.addr, .int .i64 y.size, .bool y.free]] W fun e w' => e = .returned (.int .i64 (cfB x y)) ∧ ∃ q os', w' = grow (W.drewN q) os' := by
  have hcon := hide' (fun W' => compare_any x.addr y.addr W')
  unfold cfB
  generalize Lib.compareInt x.addr y.addr = r at hcon ⊢
  go_enter Try.func81, Try.ntmps81
  go_wp2_with fail
  refine (hcon.out _).mono ?_
  rintro e w' ⟨rfl, hw⟩
  replace hw := hw.symm
  subst hw
  go_wp2
  go_ret
  exact ⟨rfl, 0, _, by rw [alloc_eq_grow, alloc_eq_grow, grow_grow]; rfl⟩
theorem ltB (x y : Bk) : ltOf cfB x y = decide (x.addr < y.addr) := by
  unfold ltOf cfB Lib.compareInt
  by_cases h1 : x.addr < y.addr
  · simp [h1]
  · by_cases h2 : y.addr < x.addr <;> simp [h1, h2]
theorem swoB : SWO (ltOf cfB) where
  irrefl x := by rw [ltB]; simp
  trans x y z h1 h2 := by rw [ltB] at *; simp at *; omega
  ntrans x y z h1 h2 := by rw [ltB] at *; simp at *; omega
theorem flat_one (d : Array Bk) (j : Nat) (h : j < d.size * 3) : (d.toList.flatMap tcb)[j]? = some (flatK tcb 3 d)[j]! := by
  have hi : j / 3 < d.size := by omega
  have hz : d.toList[j / 3]? = some d[j / 3]! := by simp [hi]
  have := Hp.flat_at tcb_len d.toList (j / 3) d[j / 3]! (j % 3) hz (by omega)
  rw [show j / 3 * 3 + j % 3 = j by omega] at this
  rw [this, get_flatK _ _ _ _ h]
  have hm : j % 3 = 0 ∨ j % 3 = 1 ∨ j % 3 = 2 := by omega
  rcases hm with e | e | e <;> rw [e] <;> rfl
variable {B : Nat} {so : Option Addr} {sc : Nat} {S : List Bk} {w w' : World}
theorem RowB.holds {g : Nat} (h : RowB B (some ⟨g, 0, none⟩) sc S w) : HoldsK tcb 3 w g 0 S.toArray := by
  intro j hj
  rw [size_flatK] at hj
  have hj' : j < S.length * 3 := by simpa using hj
  refine ⟨?_, ?_⟩
  · rw [Nat.zero_add, World.ownsRow.cellAt h j hj']
    have := flat_one S.toArray j (by simpa using hj)
    simpa using this
  · exact World.ownsRow.frozenAt h _
/-- the row behind the sort -/
theorem RowB.sorted {g m : Nat} {os : Array Obj} (h : RowB B (some ⟨g, 0, none⟩) sc S w) (d : Array Bk) (hd : d.size = S.length) : RowB B (some ⟨g, 0, none⟩) sc d.toList (sortWorldK tcb 3 w g 0 m d os) ∧ Turn (fun j => j = g) w (sortWorldK tcb 3 w g 0 m d os) := by
  have hl : d.toList.length = S.length := by simpa using hd
  rcases h.2 with ⟨hv, _⟩ | ⟨g', cap', cur, hv, hb, hg, hc, hcm, hcs, htk⟩
  · cases hv
  · simp only [Value.slice.injEq, Option.some.injEq] at hv
    obtain ⟨hv1, _, rfl⟩ := hv
    cases hv1
    have hlt := lt_of_heap hg
    have heap : ∀ k, k < w.heap.size → (sortWorldK tcb 3 w g 0 m d os).heap[k]? = if g = k then (w.heap[k]?).map (onCells (putCells id 0 (flatK tcb 3 d))) else w.heap[k]? := by
      intro k hk
      show ((w.heap.modify g (onCells (putCells id 0 (flatK tcb 3 d)))) ++ os)[k]? = _
      rw [Array.getElem?_append_left (by simpa using hk), Array.getElem?_modify]
    refine ⟨⟨?_, ?_⟩, ⟨rfl, rfl, rfl, ?_, fun k hk hn => ?_⟩⟩
    · exact Hp.flat_len tcb_len _
    · refine .inr ⟨g, sc, putCells id 0 (flatK tcb 3 d) cur, by rw [hl], hb, ?_, by rw [hl]; exact hc, hcm, by simpa [putCells] using hcs, ?_⟩
      · rw [heap g hlt, if_pos rfl, hg]
        rfl
      · apply List.ext_getElem?
        intro j
        rw [List.getElem?_take]
        by_cases hj : j < d.toList.length * 3
        · have hjd : j < d.size * 3 := by simpa using hj
          rw [if_pos hj, flat_one d j hjd, Array.getElem?_toList]
          have hjc : j < cur.size := by rw [hcs]; have := Nat.mul_le_mul_right 3 hc; omega
          simp only [putCells, Array.getElem?_mapIdx, Array.getElem?_eq_getElem hjc, Option.map_some, size_flatK]
          rw [if_pos (by omega)]
          rfl
        · rw [if_neg hj, List.getElem?_eq_none (by rw [Hp.flat_len tcb_len]; omega)]
    · show w.heap.size ≤ ((w.heap.modify g (onCells (putCells id 0 (flatK tcb 3 d)))) ++ os).size
      simp
    · rw [heap k hk, if_neg (fun e => hn e.symm)]
theorem eg81 : ∀ args w, (callFunc 81 args).run Try.prog w = .ok (.enter 81 args) w := Try.call81
set_option maxHeartbeats 1000000 in
theorem sort_any {g : Nat} (h : RowB B (some ⟨g, 0, none⟩) sc S w) (hl : S.length < 1000000) : Calls Try.prog 80 #[.slice (some ⟨g, 0, none⟩) S.length sc, .func (.func 81) #[] #[]] w fun e w' => e = .returned (.tuple #[]) ∧ ∃ L : List Bk, L.Perm S ∧ L.Pairwise (fun x y => x.addr ≤ y.addr) ∧ RowB B (some ⟨g, 0, none⟩) sc L w' ∧ Turn (fun j => j = g) w w' := by
  have hlt : g < w.heap.size := (h.lt ⟨_, rfl, rfl⟩).2.1
  have hcmp : CmpLays Try.prog 81 #[] tcb 3 cfB g 0 S.toArray.size w := fun _ _ _ _ x y => closure81 x y _
  have hcon := AnyQ.slices_SortFunc sortB 3 Try.isAgg110 Try.sizeOf110 tcb (fun _ => rfl) (fun x v hv => by simp [tcb] at hv; rcases hv with rfl | rfl | rfl <;> rfl) cfB swoB 81 #[] g 0 sc S.toArray w eg81 hcmp h.holds hlt (by simp; omega)
  have hsz : S.toArray.size = S.length := by simp
  change Calls Try.prog 80 _ _ _ at hcon
  rw [hsz] at hcon
  refine hcon.mono ?_
  rintro e w' ⟨rfl, d', n, os, hp, hs, rfl⟩
  obtain ⟨p1, p2, p3⟩ := hp
  have hd : d'.size = S.length := by simpa using p1
  obtain ⟨r1, r2⟩ := h.sorted (m := n) (os := os) d' hd
  refine ⟨rfl, d'.toList, ?_, ?_, r1, r2⟩
  · have e1 : d'.extract 0 S.length = d' := by rw [← hd]; simp
    rw [e1] at p3
    simpa using p3
  · rw [List.pairwise_iff_getElem]
    intro i j hi hj hij
    have hi' : i < d'.size := by simpa using hi
    have hj' : j < d'.size := by simpa using hj
    have := hs i j (by omega) hij (by omega)
    rw [ltB] at this
    simp [hi', hj'] at this
    simpa using this
end Fr
end Go.Proofs.Ytfeehnfpfheojaa
