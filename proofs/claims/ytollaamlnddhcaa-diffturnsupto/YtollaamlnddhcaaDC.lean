import Derived.Test.YtollaamlnddhcaaDB
import Derived.Test.YtollaamlnddhcaaKL
import Derived.Test.YtollaamlnddhcaaKE
set_option linter.unusedVariables false
set_option linter.unusedSimpArgs false
namespace Go.Proofs.Ytollaamlnddhcaa
open Go.RowKit Go.Maps
namespace D
set_option maxRecDepth 100000 in
set_option maxHeartbeats 8000000 in
theorem lhas_any (ao : Option Addr) (ac : Nat) (xs : List X.K3) (t : X.K3) (w : World) (h : X.Ints ao xs w) (hc : xs.length ≤ ac) (hl : (xs.length : Int) ≤ 1048576) : Calls Try.prog 24 #[.slice ao xs.length ac, .agg #[.string t.1, .string t.2.1, .string t.2.2]] w fun e w' => e = .returned (.bool (isIn xs t)) ∧ Below w.heap.size w w' := by
  have H := hide' h
  clear h
  go_enter Try.func24, Try.ntmps24
  go_wp2_with fail
  have b0 : Hid (Below w.heap.size w (w.alloc (.cells #[.string t.1, .string t.2.1, .string t.2.2] 42))) := (Below.refl _ _).alloc (Nat.le_refl _) _
  have hq := hide' (heap_alloc_new w (.cells #[.string t.1, .string t.2.1, .string t.2.2] 42))
  generalize w.alloc (.cells #[.string t.1, .string t.2.1, .string t.2.2] 42) = V at *
  obtain ⟨q3, hq3⟩ : ∃ q3, q3 = w.heap.size := ⟨_, rfl⟩
  rw [← hq3] at hq
  rw [← hq3]
  clear hq3
  go_loopw [5] (fun iv wx => ∃ i : Nat, iv = .int .i64 (i : Int) ∧ i ≤ xs.length ∧ isIn (xs.take i) t = false ∧ Hid (Below V.heap.size V wx)) (fun iv _ => xs.length - (intOf iv).toNat)
  case atStart => exact ⟨0, rfl, Nat.zero_le _, by simp [isIn], Below.refl _ _⟩
  case round =>
    obtain ⟨i, rfl, hi, hno, HM⟩ := hrel
    have HN := hide' hno
    clear hno
    by_cases hlt : i < xs.length
    · have hlt' : (i : Int) < (xs.length : Int) := by omega
      obtain ⟨z, hz⟩ : ∃ z, xs[i]? = some z := ⟨_, List.getElem?_eq_getElem hlt⟩
      obtain ⟨y, off, hy, hyl, d1, d2, d3⟩ := ((H.out.below b0.out).below HM.out).at hz
      have g3 := (HM.out.block _ (lt_of_heap hq.out)).trans hq.out
      have f1 : wr.cell? ⟨q3, 0, none⟩ = some (.string t.1) := by rw [Lib.cell_of_heap g3]; rfl
      have f2 : wr.cell? ⟨q3, 1, none⟩ = some (.string t.2.1) := by rw [Lib.cell_of_heap g3]; rfl
      have f3 : wr.cell? ⟨q3, 2, none⟩ = some (.string t.2.2) := by rw [Lib.cell_of_heap g3]; rfl
      clear g3
      have Hy := hide' hy
      rw [hy]
      by_cases q1 : z.1 = t.1
      · by_cases q2 : z.2.1 = t.2.1
        · by_cases q3 : z.2.2 = t.2.2
          · have e : z = t := Prod.ext q1 (Prod.ext q2 q3)
            have KI : Hid (isIn xs t = true) := isIn_yes (by rw [← e]; exact List.mem_of_getElem? hz)
            have g1 : (z.1.toList == t.1.toList) = true := by rw [q1]; exact text_eq _
            have g2 : (z.2.1.toList == t.2.1.toList) = true := by rw [q2]; exact text_eq _
            have g3 : (z.2.2.toList == t.2.2.toList) = true := by rw [q3]; exact text_eq _
            clear hy hz hyl HN q1 q2 q3 e
            go_wp2_with fail
            go_quiet (fail)
            go_wp2_with fail
            go_ret
            exact ⟨by rw [KI.out]; rfl, b0.out.trans ((HM.out.trans (U.bdrew _ _)).mono b0.out.size)⟩
          · have e : z ≠ t := fun e => q3 (by rw [e])
            have hs := hide' (U.mem_take HN.out hz e)
            have g1 : (z.1.toList == t.1.toList) = true := by rw [q1]; exact text_eq _
            have g2 : (z.2.1.toList == t.2.1.toList) = true := by rw [q2]; exact text_eq _
            have g3 : (z.2.2.toList == t.2.2.toList) = false := text_ne q3
            clear q1 q2 q3
            clear hy hz hyl HN e
            go_wp2_with fail
            go_quiet (fail)
            go_wp2_with fail
            exact ⟨⟨i + 1, by go_num, by omega, hs.out, HM.out.trans (U.bdrew _ _)⟩, by simp [intOf]; omega⟩
        · have e : z ≠ t := fun e => q2 (by rw [e])
          have hs := hide' (U.mem_take HN.out hz e)
          have g1 : (z.1.toList == t.1.toList) = true := by rw [q1]; exact text_eq _
          have g2 : (z.2.1.toList == t.2.1.toList) = false := text_ne q2
          clear q1 q2
          clear hy hz hyl HN e
          go_wp2_with fail
          go_quiet (fail)
          go_wp2_with fail
          exact ⟨⟨i + 1, by go_num, by omega, hs.out, HM.out.trans (U.bdrew _ _)⟩, by simp [intOf]; omega⟩
      · have e : z ≠ t := fun e => q1 (by rw [e])
        have hs := hide' (U.mem_take HN.out hz e)
        have g1 : (z.1.toList == t.1.toList) = false := text_ne q1
        clear q1
        clear hy hz hyl HN e
        go_wp2_with fail
        go_quiet (fail)
        go_wp2_with fail
        exact ⟨⟨i + 1, by go_num, by omega, hs.out, HM.out.trans (U.bdrew _ _)⟩, by simp [intOf]; omega⟩
    · have hk : i = xs.length := by omega
      have KI : Hid (isIn xs t = false) := by have := HN.out; rw [hk, List.take_length] at this; exact this
      have hlt' : ¬ (i : Int) < (xs.length : Int) := by omega
      clear hk HN
      go_wp2_with fail
      go_ret
      exact ⟨by rw [KI.out]; rfl, b0.out.trans (HM.out.mono b0.out.size)⟩
/-- how often a change stands in a list -/
def cnt (zs : List Ch) (c : Ch) : Nat := (zs.filter (fun z => decide (z = c))).length
theorem cnt_yes {zs : List Ch} {c z : Ch} {i : Nat} (hz : zs[i]? = some z) (h : z = c) : cnt (zs.take (i + 1)) c = cnt (zs.take i) c + 1 := by
  unfold cnt
  rw [List.take_add_one, hz, List.filter_append, List.length_append]
  simp [h]
theorem cnt_no {zs : List Ch} {c z : Ch} {i : Nat} (hz : zs[i]? = some z) (h : z ≠ c) : cnt (zs.take (i + 1)) c = cnt (zs.take i) c := by
  unfold cnt
  rw [List.take_add_one, hz, List.filter_append, List.length_append]
  simp [h]
theorem cnt_le (zs : List Ch) (c : Ch) : cnt zs c ≤ zs.length := List.length_filter_le _ _
set_option maxRecDepth 100000 in
set_option maxHeartbeats 8000000 in
theorem told_any {B : Nat} (ao : Option Addr) (ac : Nat) (xs : List Ch) (t1 t2 t3 : ByteArray) (t4 : Bool) (w : World) (h : Cr B ao ac xs w) (hl : (xs.length : Int) ≤ 2097152) : Calls Try.prog 25 #[.slice ao xs.length ac, .agg #[.string t1, .string t2, .string t3, .bool t4]] w fun e w' => e = .returned (.int .i64 (cnt xs ((t1, t2, t3), t4))) ∧ Below w.heap.size w w' := by
  have H := hide' h
  have hc := h.cap
  clear h
  go_enter Try.func25, Try.ntmps25
  go_wp2_with fail
  have b0 : Hid (Below w.heap.size w (w.alloc (.cells #[.string t1, .string t2, .string t3, .bool t4] 44))) := (Below.refl _ _).alloc (Nat.le_refl _) _
  have hq := hide' (heap_alloc_new w (.cells #[.string t1, .string t2, .string t3, .bool t4] 44))
  generalize w.alloc (.cells #[.string t1, .string t2, .string t3, .bool t4] 44) = V at *
  obtain ⟨q3, hq3⟩ : ∃ q3, q3 = w.heap.size := ⟨_, rfl⟩
  rw [← hq3] at hq
  rw [← hq3]
  clear hq3
  go_loopw [5, 6] (fun nv iv wx => ∃ i : Nat, iv = .int .i64 (i : Int) ∧ nv = .int .i64 (cnt (xs.take i) ((t1, t2, t3), t4) : Int) ∧ i ≤ xs.length ∧ Hid (Below V.heap.size V wx)) (fun _ iv _ => xs.length - (intOf iv).toNat)
  case atStart => exact ⟨0, rfl, rfl, Nat.zero_le _, Below.refl _ _⟩
  case round =>
    obtain ⟨i, rfl, rfl, hi, HM⟩ := hrel
    by_cases hlt : i < xs.length
    · have hlt' : (i : Int) < (xs.length : Int) := by omega
      obtain ⟨z, hz⟩ : ∃ z, xs[i]? = some z := ⟨_, List.getElem?_eq_getElem hlt⟩
      obtain ⟨y, hy, hyl, d1, d2, d3, d4⟩ := ((H.out.below b0.out).below HM.out).at hz
      have g3 := (HM.out.block _ (lt_of_heap hq.out)).trans hq.out
      have f1 : wr.cell? ⟨q3, 0, none⟩ = some (.string t1) := by rw [Lib.cell_of_heap g3]; rfl
      have f2 : wr.cell? ⟨q3, 1, none⟩ = some (.string t2) := by rw [Lib.cell_of_heap g3]; rfl
      have f3 : wr.cell? ⟨q3, 2, none⟩ = some (.string t3) := by rw [Lib.cell_of_heap g3]; rfl
      have f4 : wr.cell? ⟨q3, 3, none⟩ = some (.bool t4) := by rw [Lib.cell_of_heap g3]; rfl
      clear g3
      have Hy := hide' hy
      rw [hy]
      obtain ⟨⟨z1, z2, z3⟩, z4⟩ := z
      simp only at d1 d2 d3 d4
      have hcb : ((cnt (xs.take i) ((t1, t2, t3), t4) : Nat) : Int) ≤ 2097152 := by have := cnt_le (xs.take i) ((t1, t2, t3), t4); rw [List.length_take] at this; omega
      have hcb0 : (0 : Int) ≤ ((cnt (xs.take i) ((t1, t2, t3), t4) : Nat) : Int) := by omega
      by_cases q0 : z1 = t1
      · by_cases q1 : z2 = t2
        · by_cases q2 : z3 = t3
          · by_cases q3 : z4 = t4
            · have e : (((z1, z2, z3), z4) : Ch) = ((t1, t2, t3), t4) := by rw [q0, q1, q2, q3]
              have hs := hide' (cnt_yes hz e)
              have g0 : (z1.toList == t1.toList) = true := by rw [q0]; exact text_eq _
              have g1 : (z2.toList == t2.toList) = true := by rw [q1]; exact text_eq _
              have g2 : (z3.toList == t3.toList) = true := by rw [q2]; exact text_eq _
              have g3 : (z4 == t4) = true := by rw [q3]; simp
              clear hy hz hyl e q0 q1 q2 q3
              go_wp2_with fail
              go_quiet (fail)
              go_wp2_with fail
              exact ⟨⟨i + 1, by go_num, by rw [hs.out]; go_num, by omega, HM.out.trans (U.bdrew _ _)⟩, by simp [intOf]; omega⟩
            · have e : (((z1, z2, z3), z4) : Ch) ≠ ((t1, t2, t3), t4) := fun e => q3 (by simp at e; simp [e])
              have hs := hide' (cnt_no hz e)
              have g0 : (z1.toList == t1.toList) = true := by rw [q0]; exact text_eq _
              have g1 : (z2.toList == t2.toList) = true := by rw [q1]; exact text_eq _
              have g2 : (z3.toList == t3.toList) = true := by rw [q2]; exact text_eq _
              have g3 : (z4 == t4) = false := by simp [q3]
              clear hy hz hyl e q0 q1 q2 q3
              go_wp2_with fail
              go_quiet (fail)
              go_wp2_with fail
              exact ⟨⟨i + 1, by go_num, by rw [hs.out], by omega, HM.out.trans (U.bdrew _ _)⟩, by simp [intOf]; omega⟩
          · have e : (((z1, z2, z3), z4) : Ch) ≠ ((t1, t2, t3), t4) := fun e => q2 (by simp at e; simp [e])
            have hs := hide' (cnt_no hz e)
            have g0 : (z1.toList == t1.toList) = true := by rw [q0]; exact text_eq _
            have g1 : (z2.toList == t2.toList) = true := by rw [q1]; exact text_eq _
            have g2 : (z3.toList == t3.toList) = false := text_ne q2
            clear hy hz hyl e q0 q1 q2
            go_wp2_with fail
            go_quiet (fail)
            go_wp2_with fail
            exact ⟨⟨i + 1, by go_num, by rw [hs.out], by omega, HM.out.trans (U.bdrew _ _)⟩, by simp [intOf]; omega⟩
        · have e : (((z1, z2, z3), z4) : Ch) ≠ ((t1, t2, t3), t4) := fun e => q1 (by simp at e; simp [e])
          have hs := hide' (cnt_no hz e)
          have g0 : (z1.toList == t1.toList) = true := by rw [q0]; exact text_eq _
          have g1 : (z2.toList == t2.toList) = false := text_ne q1
          clear hy hz hyl e q0 q1
          go_wp2_with fail
          go_quiet (fail)
          go_wp2_with fail
          exact ⟨⟨i + 1, by go_num, by rw [hs.out], by omega, HM.out.trans (U.bdrew _ _)⟩, by simp [intOf]; omega⟩
      · have e : (((z1, z2, z3), z4) : Ch) ≠ ((t1, t2, t3), t4) := fun e => q0 (by simp at e; simp [e])
        have hs := hide' (cnt_no hz e)
        have g0 : (z1.toList == t1.toList) = false := text_ne q0
        clear hy hz hyl e q0
        go_wp2_with fail
        go_quiet (fail)
        go_wp2_with fail
        exact ⟨⟨i + 1, by go_num, by rw [hs.out], by omega, HM.out.trans (U.bdrew _ _)⟩, by simp [intOf]; omega⟩
    · have hin : xs.length = i := by omega
      have hlt' : ¬ (i : Int) < (xs.length : Int) := by omega
      subst hin
      rw [List.take_length]
      go_wp2_with fail
      go_ret
      exact ⟨rfl, b0.out.trans (HM.out.mono b0.out.size)⟩
end D
end Go.Proofs.Ytollaamlnddhcaa
set_option linter.unusedVariables false
set_option linter.unusedSimpArgs false
namespace Go.Proofs.Ytollaamlnddhcaa
open Go.RowKit Go.Maps
namespace D
open U (Pf Fine rel fo fos)
def few (F : Pf) : Prop := (fos F.s.2.2).length * ((fo F.o.2.2).length * (fo F.a.2.2).length) ≤ 65536
theorem rel_few {F : Pf} (h : few F) : (rel F).length ≤ 65536 := by
  have q1 := U.relA_len F (fo F.a.2.2) (fo F.o.2.2) (fos F.s.2.2)
  unfold few at h
  show (U.relA F _ _ _).length ≤ _
  omega
theorem rel_okk {F : Pf} {N : Nat} (f : Fine F N) : ∀ t ∈ rel F, X.okk t := by
  intro t ht
  rw [U.rel_trs] at ht
  obtain ⟨h1, h2, h3⟩ := U.mem_trs.1 (List.mem_filter.1 ht).1
  have n := f.n
  refine ⟨?_, ?_, ?_⟩
  · obtain ⟨s, hs, e⟩ := List.mem_map.1 (U.fo_mem h1)
    have := f.zs s hs
    rw [← e]; unfold maxLen; omega
  · have := f.zo _ (U.fo_mem h2)
    unfold maxLen; omega
  · have := f.za _ (U.fo_mem h3)
    unfold maxLen; omega
theorem rof_call (F : Pf) (N : Nat) (w : World) (h : F.In w) (f : Fine F N) (hv : few F) : Calls Try.prog 38 #[.agg F.arr] w fun e w' => RofIs (rel F) w e w' :=
  relationOf_any F (rel F) w (fun V b => U.rel_call F N V (h.below b) f hv) (rel_okk f) (by have := rel_few hv; omega)
theorem cb_of {F G : Pf} {N N' : Nat} {w : World} (hF : F.In w) (hG : G.In w) (fF : Fine F N) (fG : Fine G N') (vF : few F) (vG : few G) : Cb w F.arr G.arr (rel F) (rel G) :=
  ⟨fun V b => rof_call F N V (hF.below b) fF vF, fun V b => rof_call G N' V (hG.below b) fG vG⟩
theorem fit_of {F G : Pf} {N N' : Nat} (fF : Fine F N) (fG : Fine G N') (vF : few F) (vG : few G) : Fit (rel F) (rel G) :=
  ⟨rel_okk fF, by have := rel_few vF; omega, rel_okk fG, by have := rel_few vG; omega⟩
theorem list_call (F G : Pf) (N N' : Nat) (w : World) (hF : F.In w) (hG : G.In w) (fF : Fine F N) (fG : Fine G N') (vF : few F) (vG : few G) : Calls Try.prog 12 #[.agg F.arr, .agg G.arr] w fun e w' => LstIs (rel F) (rel G) w e w' :=
  list_any F G _ _ w (cb_of hF hG fF fG vF vG) (fit_of fF fG vF vG)
theorem same_call (F G : Pf) (N N' : Nat) (w : World) (hF : F.In w) (hG : G.In w) (fF : Fine F N) (fG : Fine G N') (vF : few F) (vG : few G) : Calls Try.prog 15 #[.agg F.arr, .agg G.arr] w fun e w' => e = .returned (.bool ((chg (rel F) (rel G)).length == 0)) ∧ Below w.heap.size w w' :=
  same_any F G _ _ w (cb_of hF hG fF fG vF vG) (fit_of fF fG vF vG)
end D
end Go.Proofs.Ytollaamlnddhcaa
set_option linter.unusedVariables false
set_option linter.unusedSimpArgs false
namespace Go.Proofs.Ytollaamlnddhcaa
open Go.RowKit Go.Maps
namespace D
open U (Pf Fine rel fo fos)
abbrev kOpen : ByteArray := ⟨#[111, 112, 101, 110]⟩
abbrev kShut : ByteArray := ⟨#[115, 104, 117, 116]⟩
abbrev kAnn : ByteArray := ⟨#[97, 110, 110]⟩
abbrev kDoor : ByteArray := ⟨#[100, 111, 111, 114]⟩
/-- the small policy -/
def FS (act : ByteArray) (n : Nat) : Pf where
  a := (some ⟨n, 0, none⟩, 2, [kOpen, kShut])
  s := (some ⟨n + 1, 0, none⟩, 1, [(kAnn, 4607182418800017408)])
  r := (none, 0, [])
  o := (some ⟨n + 2, 0, none⟩, 1, [kDoor])
  g := (none, 0, [])
  m := (none, 0, [])
  i := (none, 0, [])
  p := (none, 0, [])
  w := (none, 0, [])
  u := (some ⟨n + 4, 0, none⟩, 1, [⟨.bool false, kAnn, kDoor, some ⟨n + 3, 0, none⟩, 1, [act], 0, 0⟩])
  x := (none, 0, [])
theorem rel_open (n : Nat) : rel (FS kOpen n) = [(kAnn, kDoor, kOpen)] := by kernel_rfl
theorem rel_shut (n : Nat) : rel (FS kShut n) = [(kAnn, kDoor, kShut)] := by kernel_rfl
structure BS (act : ByteArray) (n : Nat) (V : World) : Prop where
  b0 : V.heap[n + 0]? = some (.cells #[.string kOpen, .string kShut] 9 (0, 0))
  b1 : V.heap[n + 1]? = some (.cells #[.string kAnn, .float .f64 4607182418800017408] 67 (0, 0))
  b2 : V.heap[n + 2]? = some (.cells #[.string kDoor] 9 (0, 0))
  b3 : V.heap[n + 3]? = some (.cells #[.string act] 9 (0, 0))
  b4 : V.heap[n + 4]? = some (.cells #[.bool false, .string kAnn, .string kDoor, .slice (some ⟨n + 3, 0, none⟩) 1 1, .int .i8 0, .float .f64 0] 65 (0, 0))
theorem BS.below {act : ByteArray} {n : Nat} {V V' : World} (h : BS act n V) (b : Below V.heap.size V V') : BS act n V' :=
  ⟨(b.block _ (lt_of_heap h.b0)).trans h.b0, (b.block _ (lt_of_heap h.b1)).trans h.b1, (b.block _ (lt_of_heap h.b2)).trans h.b2, (b.block _ (lt_of_heap h.b3)).trans h.b3, (b.block _ (lt_of_heap h.b4)).trans h.b4⟩
theorem FS_in {act : ByteArray} {n : Nat} {V : World} (h : BS act n V) : (FS act n).In V where
  a := ⟨.inr ⟨n + 0, 0, rfl, lt_of_heap h.b0, fun i k q => by
      match i, q with
      | 0, q => simp [FS] at q; subst q; rw [Lib.cell_of_heap h.b0]; rfl
      | 1, q => simp [FS] at q; subst q; rw [Lib.cell_of_heap h.b0]; rfl
      | j + 2, q => simp [FS] at q⟩, Nat.le_refl _, fun q => by cases q⟩
  s := ⟨.inr ⟨n + 1, 0, rfl, lt_of_heap h.b1, fun i k q => by
      match i, q with
      | 0, q => simp [FS] at q; subst q; exact ⟨by rw [Lib.cell_of_heap h.b1]; rfl, by rw [Lib.cell_of_heap h.b1]; rfl⟩
      | j + 1, q => simp [FS] at q⟩, Nat.le_refl _, fun q => by cases q⟩
  r := ⟨.inl rfl, Nat.le_refl _, fun _ => rfl⟩
  o := ⟨.inr ⟨n + 2, 0, rfl, lt_of_heap h.b2, fun i k q => by
      match i, q with
      | 0, q => simp [FS] at q; subst q; rw [Lib.cell_of_heap h.b2]; rfl
      | j + 1, q => simp [FS] at q⟩, Nat.le_refl _, fun q => by cases q⟩
  g := ⟨.inl rfl, Nat.le_refl _, fun _ => rfl⟩
  m := ⟨.inl rfl, Nat.le_refl _, fun _ => rfl⟩
  p := ⟨.inl rfl, Nat.le_refl _, fun _ => rfl⟩
  i := ⟨.inl rfl, Nat.le_refl _, fun _ => rfl⟩
  w := ⟨.inl rfl, Nat.le_refl _, fun _ => rfl⟩
  x := ⟨.inl rfl, Nat.le_refl _, fun _ => rfl⟩
  u := by
    refine ⟨⟨.inr ⟨n + 4, 0, rfl, lt_of_heap h.b4, fun i r k u q s => ?_⟩, fun R hR => ?_⟩, Nat.le_refl _, fun q => by cases q⟩
    · match i, q with
      | 0, q =>
        simp [FS, U.Ru.cells] at q; subst q
        rw [Lib.cell_of_heap h.b4]
        match r, s with
        | 0, s => exact s
        | 1, s => exact s
        | 2, s => exact s
        | 3, s => exact s
        | 4, s => exact s
        | 5, s => exact s
        | r + 6, s => simp at s
      | j + 1, q => simp [FS] at q
    · rw [show (FS act n).u.2.2 = [⟨.bool false, kAnn, kDoor, some ⟨n + 3, 0, none⟩, 1, [act], 0, 0⟩] from rfl, List.mem_singleton] at hR
      subst hR
      exact ⟨⟨.inr ⟨n + 3, 0, rfl, lt_of_heap h.b3, fun i k q => by
          match i, q with
          | 0, q => simp at q; subst q; rw [Lib.cell_of_heap h.b3]; rfl
          | j + 1, q => simp at q⟩, Nat.le_refl _, fun q => by cases q⟩, ⟨_, rfl⟩, by show 1 ≤ _; decide⟩
theorem FS_fine (act : ByteArray) (n : Nat) (ha : act.size ≤ 100) : Fine (FS act n) 100 where
  n := by decide
  a := by show 2 ≤ 100; decide
  s := by show 1 ≤ 100; decide
  r := by show 0 ≤ 100; decide
  o := by show 1 ≤ 100; decide
  g := by show 0 ≤ 100; decide
  mi := by show 0 ≤ 100; decide
  pw := by show 0 ≤ 100; decide
  u := by show 1 ≤ 100; decide
  x := by show 0 ≤ 100; decide
  za := fun a ha => by
    have h : a ∈ [kOpen, kShut] := ha
    simp only [List.mem_cons, List.mem_nil_iff, or_false] at h
    rcases h with rfl | rfl <;> decide
  zs := fun s hs => by
    have h : s ∈ [(kAnn, 4607182418800017408)] := hs
    simp only [List.mem_cons, List.mem_nil_iff, or_false] at h
    subst h; decide
  zo := fun s hs => by
    have h : s ∈ [kDoor] := hs
    simp only [List.mem_cons, List.mem_nil_iff, or_false] at h
    subst h; decide
  zm := fun q hq => by cases hq
  zp := fun q hq => by cases hq
  zu := fun R hR => by
    rw [show (FS act n).u.2.2 = [⟨.bool false, kAnn, kDoor, some ⟨n + 3, 0, none⟩, 1, [act], 0, 0⟩] from rfl, List.mem_singleton] at hR
    subst hR
    exact ⟨by show 3 ≤ 100; decide, by show 4 ≤ 100; decide, fun a ha' => by rw [List.mem_singleton] at ha'; subst ha'; exact ha⟩
  zx := fun t ht => by cases ht
theorem FS_few (act : ByteArray) (n : Nat) : few (FS act n) := by show 1 * (1 * 2) ≤ 65536; decide
def osS (act : ByteArray) (n : Nat) : List Obj := [.cells #[.string kOpen, .string kShut] 9, .cells #[.string kAnn, .float .f64 4607182418800017408] 67, .cells #[.string kDoor] 9, .cells #[.string act] 9, .cells #[.bool false, .string kAnn, .string kDoor, .slice (some ⟨n + 3, 0, none⟩) 1 1, .int .i8 0, .float .f64 0] 65]
theorem BS_new (act : ByteArray) (w : World) : BS act w.heap.size (U.allocs w (osS act w.heap.size)) :=
  ⟨U.allocs_get _ w 0 _ rfl, U.allocs_get _ w 1 _ rfl, U.allocs_get _ w 2 _ rfl, U.allocs_get _ w 3 _ rfl, U.allocs_get _ w 4 _ rfl⟩
/-- what small tells -/
def SmlIs (act : ByteArray) (w : World) (e : Ending) (w' : World) : Prop := ∃ n, e = .returned (.agg (FS act n).arr) ∧ BS act n w' ∧ Below w.heap.size w w'
set_option maxRecDepth 100000 in
set_option maxHeartbeats 8000000 in
theorem small_any (act : ByteArray) (w : World) : Calls Try.prog 41 #[.string act] w fun e w' => SmlIs act w e w' := by
  go_enter Try.func41, Try.ntmps41
  go_wp2_with (with_reducible refine U.stay_store 28 _ _ rfl ?_)
  unfold U.Stay
  have HW : Hid (BS act (w.heap.size + 1) (U.allocs (w.alloc (.cells #[.slice none 0 0, .slice none 0 0, .slice none 0 0, .slice none 0 0, .slice none 0 0, .slice none 0 0, .slice none 0 0, .slice none 0 0, .slice none 0 0, .slice none 0 0, .slice none 0 0] 28)) (osS act (w.heap.size + 1))) ∧ Below w.heap.size w (U.allocs (w.alloc (.cells #[.slice none 0 0, .slice none 0 0, .slice none 0 0, .slice none 0 0, .slice none 0 0, .slice none 0 0, .slice none 0 0, .slice none 0 0, .slice none 0 0, .slice none 0 0, .slice none 0 0] 28)) (osS act (w.heap.size + 1))) ∧ (U.allocs (w.alloc (.cells #[.slice none 0 0, .slice none 0 0, .slice none 0 0, .slice none 0 0, .slice none 0 0, .slice none 0 0, .slice none 0 0, .slice none 0 0, .slice none 0 0, .slice none 0 0, .slice none 0 0] 28)) (osS act (w.heap.size + 1))).heap[w.heap.size]? = some (.cells #[.slice none 0 0, .slice none 0 0, .slice none 0 0, .slice none 0 0, .slice none 0 0, .slice none 0 0, .slice none 0 0, .slice none 0 0, .slice none 0 0, .slice none 0 0, .slice none 0 0] 28 (0, 0))) := by
    have h := BS_new act (w.alloc (.cells #[.slice none 0 0, .slice none 0 0, .slice none 0 0, .slice none 0 0, .slice none 0 0, .slice none 0 0, .slice none 0 0, .slice none 0 0, .slice none 0 0, .slice none 0 0, .slice none 0 0] 28))
    rw [World.size_alloc] at h
    have b0 : Below w.heap.size w (w.alloc (.cells #[.slice none 0 0, .slice none 0 0, .slice none 0 0, .slice none 0 0, .slice none 0 0, .slice none 0 0, .slice none 0 0, .slice none 0 0, .slice none 0 0, .slice none 0 0, .slice none 0 0] 28)) := (Below.refl _ _).alloc (Nat.le_refl _) _
    exact ⟨h, b0.trans ((U.allocs_below _ _).mono b0.size), (U.allocs_old _ _ _ (by simp)).trans (heap_alloc_new w _)⟩
  change wpList Try.prog _ _ _ _ (U.allocs (w.alloc (.cells #[.slice none 0 0, .slice none 0 0, .slice none 0 0, .slice none 0 0, .slice none 0 0, .slice none 0 0, .slice none 0 0, .slice none 0 0, .slice none 0 0, .slice none 0 0, .slice none 0 0] 28)) (osS act (w.heap.size + 1)))
  generalize U.allocs (w.alloc (.cells #[.slice none 0 0, .slice none 0 0, .slice none 0 0, .slice none 0 0, .slice none 0 0, .slice none 0 0, .slice none 0 0, .slice none 0 0, .slice none 0 0, .slice none 0 0, .slice none 0 0] 28)) (osS act (w.heap.size + 1)) = V at *
  refine wpList_store_row rfl 28 _ _ rfl w.heap.size (FS act (w.heap.size + 1)).arr rfl rfl 28 _ HW.out.2.2 (U.size_arr _) rfl (by simp [U.Pf.arr, Value.oneCell']) ?_
  have hfin := setRow_heap V w.heap.size _ (FS act (w.heap.size + 1)).arr 28 (0, 0) HW.out.2.2
  have HR : Hid (SmlIs act w (.returned (.agg (FS act (w.heap.size + 1)).arr)) (V.setRow w.heap.size (FS act (w.heap.size + 1)).arr)) := by
    obtain ⟨b0, b1, b2, b3, b4⟩ := HW.out.1
    refine ⟨_, rfl, ⟨(setRow_other _ _ _ _ (by omega)).trans b0, (setRow_other _ _ _ _ (by omega)).trans b1, (setRow_other _ _ _ _ (by omega)).trans b2, (setRow_other _ _ _ _ (by omega)).trans b3, (setRow_other _ _ _ _ (by omega)).trans b4⟩, HW.out.2.1.trans (below_own (U.setRow_turn V w.heap.size _) (fun j e => by rw [e]; exact Nat.le_refl _) HW.out.2.1.size)⟩
  clear HW
  go_wp2_with fail
  refine bodyPost_ret (results_cell_row rfl _ _ w.heap.size 28 (FS act (w.heap.size + 1)).arr (0, 0) _ rfl hfin Try.underlying28 rfl (U.size_arr _)) rfl ?_
  exact HR.out
theorem chg_os : chg [(kAnn, kDoor, kOpen)] [(kAnn, kDoor, kShut)] = [((kAnn, kDoor, kOpen), false), ((kAnn, kDoor, kShut), true)] := by kernel_rfl
theorem chg_oo : chg [(kAnn, kDoor, kOpen)] [(kAnn, kDoor, kOpen)] = [] := by kernel_rfl
set_option maxRecDepth 100000 in
set_option maxHeartbeats 8000000 in
theorem alive_any (w : World) : Calls Try.prog 22 #[] w fun e w' => e = .returned (.bool true) ∧ Below w.heap.size w w' := by
  have K1 : Hid (∀ n n' (V : World), BS kOpen n V → BS kShut n' V → Calls Try.prog 12 #[.agg (FS kOpen n).arr, .agg (FS kShut n').arr] V fun e w' => ∃ o c, e = .returned (.slice o 2 c) ∧ Cr V.heap.size o c [((kAnn, kDoor, kOpen), false), ((kAnn, kDoor, kShut), true)] w' ∧ Below V.heap.size V w') := fun n n' V h1 h2 => by
    refine (list_call (FS kOpen n) (FS kShut n') 100 100 V (FS_in h1) (FS_in h2) (FS_fine _ _ (by decide)) (FS_fine _ _ (by decide)) (FS_few _ _) (FS_few _ _)).mono ?_
    rintro e w' ⟨o, c, rfl, r, b⟩
    rw [rel_open, rel_shut, chg_os] at r
    rw [rel_open, rel_shut, chg_os]
    exact ⟨o, c, rfl, r, b⟩
  have K2 : Hid (∀ n n' (V : World), BS kOpen n V → BS kShut n' V → Calls Try.prog 15 #[.agg (FS kOpen n).arr, .agg (FS kShut n').arr] V fun e w' => e = .returned (.bool false) ∧ Below V.heap.size V w') := fun n n' V h1 h2 => by
    refine (same_call (FS kOpen n) (FS kShut n') 100 100 V (FS_in h1) (FS_in h2) (FS_fine _ _ (by decide)) (FS_fine _ _ (by decide)) (FS_few _ _) (FS_few _ _)).mono ?_
    rintro e w' ⟨rfl, b⟩
    rw [rel_open, rel_shut, chg_os]
    exact ⟨rfl, b⟩
  have K3 : Hid (∀ n n' (V : World), BS kOpen n V → BS kOpen n' V → Calls Try.prog 15 #[.agg (FS kOpen n).arr, .agg (FS kOpen n').arr] V fun e w' => e = .returned (.bool true) ∧ Below V.heap.size V w') := fun n n' V h1 h2 => by
    refine (same_call (FS kOpen n) (FS kOpen n') 100 100 V (FS_in h1) (FS_in h2) (FS_fine _ _ (by decide)) (FS_fine _ _ (by decide)) (FS_few _ _) (FS_few _ _)).mono ?_
    rintro e w' ⟨rfl, b⟩
    rw [rel_open, rel_open, chg_oo]
    exact ⟨rfl, b⟩
  go_enter Try.func22, Try.ntmps22
  go_wp2_with fail
  refine (small_any kOpen w).mono ?_
  rintro e V1 ⟨n1, rfl, s1, b1⟩
  have S1 := hide' (And.intro s1 b1)
  clear s1 b1
  go_wp2_with fail
  refine (small_any kShut V1).mono ?_
  rintro e V2 ⟨n2, rfl, s2, b2⟩
  have S2 : Hid (BS kOpen n1 V2 ∧ BS kShut n2 V2 ∧ Below w.heap.size w V2) := ⟨S1.out.1.below b2, s2, S1.out.2.trans (b2.mono S1.out.2.size)⟩
  clear s2 b2 S1 V1
  go_wp2_with fail
  refine (K1.out n1 n2 V2 S2.out.1 S2.out.2.1).mono ?_
  rintro e V3 ⟨o, c, rfl, r, b3⟩
  have S3 : Hid (Below w.heap.size w V3) := S2.out.2.2.trans (b3.mono S2.out.2.2.size)
  have hcap : (2 : Nat) ≤ c := r.cap
  obtain ⟨g, rfl, hg, x0, x1, x2, x3⟩ := r.at (j := 0) rfl
  obtain ⟨g', e1, _, x4, x5, x6, x7⟩ := r.at (j := 1) rfl
  cases e1
  have KC : Hid (∀ W, Below V3.heap.size V3 W → W.cell? ⟨g, 0, none⟩ = some (.string kAnn) ∧ W.cell? ⟨g, 1, none⟩ = some (.string kDoor) ∧ W.cell? ⟨g, 2, none⟩ = some (.string kOpen) ∧ W.cell? ⟨g, 3, none⟩ = some (.bool false) ∧ W.cell? ⟨g, 4, none⟩ = some (.string kAnn) ∧ W.cell? ⟨g, 5, none⟩ = some (.string kDoor) ∧ W.cell? ⟨g, 6, none⟩ = some (.string kShut) ∧ W.cell? ⟨g, 7, none⟩ = some (.bool true)) := fun W b => ⟨(b.cell (p := ⟨g, 0, none⟩) hg).trans x0, (b.cell (p := ⟨g, 1, none⟩) hg).trans x1, (b.cell (p := ⟨g, 2, none⟩) hg).trans x2, (b.cell (p := ⟨g, 3, none⟩) hg).trans x3, (b.cell (p := ⟨g, 4, none⟩) hg).trans x4, (b.cell (p := ⟨g, 5, none⟩) hg).trans x5, (b.cell (p := ⟨g, 6, none⟩) hg).trans x6, (b.cell (p := ⟨g, 7, none⟩) hg).trans x7⟩
  clear r b3 x0 x1 x2 x3 x4 x5 x6 x7 hg S2 V2
  go_wp2_with fail
  refine (small_any kOpen V3).mono ?_
  rintro e V4 ⟨n3, rfl, s4, b4⟩
  have S4 := hide' (And.intro s4 b4)
  clear s4 b4
  go_wp2_with fail
  refine (small_any kShut V4).mono ?_
  rintro e V5 ⟨n4, rfl, s5, b5⟩
  have S5 : Hid (BS kOpen n3 V5 ∧ BS kShut n4 V5 ∧ Below V3.heap.size V3 V5) := ⟨S4.out.1.below b5, s5, S4.out.2.trans (b5.mono S4.out.2.size)⟩
  clear s5 b5 S4 V4
  go_wp2_with fail
  refine (K2.out n3 n4 V5 S5.out.1 S5.out.2.1).mono ?_
  rintro e V6 ⟨rfl, b6⟩
  have S6 : Hid (Below V3.heap.size V3 V6) := S5.out.2.2.trans (b6.mono S5.out.2.2.size)
  clear b6 S5 V5
  go_wp2_with fail
  refine (small_any kOpen V6).mono ?_
  rintro e V7 ⟨n5, rfl, s7, b7⟩
  have S7 : Hid (BS kOpen n5 V7 ∧ Below V3.heap.size V3 V7) := ⟨s7, S6.out.trans (b7.mono S6.out.size)⟩
  clear s7 b7 S6 V6
  go_wp2_with fail
  refine (small_any kOpen V7).mono ?_
  rintro e V8 ⟨n6, rfl, s8, b8⟩
  have S8 : Hid (BS kOpen n5 V8 ∧ BS kOpen n6 V8 ∧ Below V3.heap.size V3 V8) := ⟨S7.out.1.below b8, s8, S7.out.2.trans (b8.mono S7.out.2.size)⟩
  clear s8 b8 S7 V7
  go_wp2_with fail
  refine (K3.out n5 n6 V8 S8.out.1 S8.out.2.1).mono ?_
  rintro e V9 ⟨rfl, b9⟩
  have S9 : Hid (Below V3.heap.size V3 V9) := S8.out.2.2.trans (b9.mono S8.out.2.2.size)
  clear b9 S8 V8
  obtain ⟨c0, c1, c2, c3, c4, c5, c6, c7⟩ := KC.out V9 S9.out
  go_wp2_with fail
  go_ret
  exact ⟨rfl, S3.out.trans (S9.out.mono S3.out.size)⟩
end D
end Go.Proofs.Ytollaamlnddhcaa
set_option linter.unusedVariables false
set_option linter.unusedSimpArgs false
namespace Go.Proofs.Ytollaamlnddhcaa
open Go.RowKit Go.Maps
namespace D
open U (Pf Fine rel fo fos vst)
/-- a slice of policies that can be read: three of their lists -/
def VI (o : Option Addr) (Fs : List Pf) (w : World) : Prop := Fs = [] ∨ ∃ b off, o = some ⟨b, off, none⟩ ∧ b < w.heap.size ∧ ∀ i F, Fs[i]? = some F → w.cell? ⟨b, off + i * 11, none⟩ = some (.slice F.a.1 F.a.2.2.length F.a.2.1) ∧ w.cell? ⟨b, off + i * 11 + 1, none⟩ = some (.slice F.s.1 F.s.2.2.length F.s.2.1) ∧ w.cell? ⟨b, off + i * 11 + 3, none⟩ = some (.slice F.o.1 F.o.2.2.length F.o.2.1)
theorem VI.below {o : Option Addr} {Fs : List Pf} {w w' : World} (h : VI o Fs w) (t : Below w.heap.size w w') : VI o Fs w' := by
  rcases h with h | ⟨b, off, h1, h2, h3⟩
  · exact .inl h
  · exact .inr ⟨b, off, h1, Nat.lt_of_lt_of_le h2 t.size, fun i F q => ⟨(t.cell (p := ⟨b, off + i * 11, none⟩) h2).trans (h3 i F q).1, (t.cell (p := ⟨b, off + i * 11 + 1, none⟩) h2).trans (h3 i F q).2.1, (t.cell (p := ⟨b, off + i * 11 + 3, none⟩) h2).trans (h3 i F q).2.2⟩⟩
theorem VI.at {o : Option Addr} {Fs : List Pf} {w : World} (h : VI o Fs w) {i : Nat} {F : Pf} (q : Fs[i]? = some F) : ∃ b off, o = some ⟨b, off, none⟩ ∧ w.cell? ⟨b, off + i * 11, none⟩ = some (.slice F.a.1 F.a.2.2.length F.a.2.1) ∧ w.cell? ⟨b, off + i * 11 + 1, none⟩ = some (.slice F.s.1 F.s.2.2.length F.s.2.1) ∧ w.cell? ⟨b, off + i * 11 + 3, none⟩ = some (.slice F.o.1 F.o.2.2.length F.o.2.1) := by
  rcases h with rfl | ⟨b, off, h1, h2, h3⟩
  · simp at q
  · exact ⟨b, off, h1, h3 i F q⟩
def vs (F : Pf) : Bool := vst F.s.2.2.length F.o.2.2.length F.a.2.2.length
theorem any_take {Fs : List Pf} {i : Nat} {F : Pf} (hF : Fs[i]? = some F) (h : (Fs.take i).any vs = false) (hv : vs F = false) : (Fs.take (i + 1)).any vs = false := by
  rw [List.take_add_one, hF, List.any_append, h]
  simp [hv]
theorem any_hit {Fs : List Pf} {i : Nat} {F : Pf} (hF : Fs[i]? = some F) (hv : true = vs F) : Fs.any vs = true := List.any_eq_true.2 ⟨F, List.mem_of_getElem? hF, hv.symm⟩
theorem vst6 {a b c : Nat} (ha : (a : Int) ≤ 65536) (hb : (b : Int) ≤ 65536) (hc : (c : Int) ≤ 65536) (h : wrap64 ((a : Int) * (b : Int)) ≤ 65536) (q : (((65536 < (a : Int) ∨ 65536 < (b : Int)) ∨ 65536 < (c : Int)) ∨ 65536 < wrap64 ((a : Int) * (b : Int))) ∨ 65536 < wrap64 (wrap64 ((a : Int) * (b : Int)) * (c : Int))) : true = vst a b c := by
  rw [← U.vst5 ha hb hc h]
  rcases q with q | q
  · exfalso; omega
  · simp [q]
theorem vst7 {a b c : Nat} (ha : (a : Int) ≤ 65536) (hb : (b : Int) ≤ 65536) (hc : (c : Int) ≤ 65536) (h : wrap64 ((a : Int) * (b : Int)) ≤ 65536) (q : ((((a : Int) ≤ 65536 ∧ (b : Int) ≤ 65536) ∧ (c : Int) ≤ 65536) ∧ wrap64 ((a : Int) * (b : Int)) ≤ 65536) ∧ wrap64 (wrap64 ((a : Int) * (b : Int)) * (c : Int)) ≤ 65536) : vst a b c = false := by
  rw [← U.vst5 ha hb hc h]
  have q5 := q.2
  simp only [Bool.or_eq_false_iff, decide_eq_false_iff_not]
  exact ⟨⟨⟨⟨by omega, by omega⟩, by omega⟩, by omega⟩, by omega⟩
set_option maxRecDepth 100000 in
set_option maxHeartbeats 8000000 in
theorem vast_any (Fs : List Pf) (o : Option Addr) (c : Nat) (w : World) (h : VI o Fs w) (hc : Fs.length ≤ c) (hl : (Fs.length : Int) ≤ 1048576) (hs : ∀ F ∈ Fs, F.Small) : Calls Try.prog 9 #[.slice o Fs.length c] w fun e w' => e = .returned (.bool (Fs.any vs)) ∧ Below w.heap.size w w' := by
  have H := hide' h
  have HS := hide' hs
  clear h hs
  go_enter Try.func9, Try.ntmps9
  go_wp2_with fail
  go_loopw [3] (fun iv wx => ∃ i : Nat, iv = .int .i64 (i : Int) ∧ i ≤ Fs.length ∧ Hid ((Fs.take i).any vs = false) ∧ Hid (Below w.heap.size w wx)) (fun iv _ => Fs.length - (intOf iv).toNat)
  case atStart => exact ⟨0, rfl, Nat.zero_le _, rfl, Below.refl _ _⟩
  case round =>
    obtain ⟨i, rfl, hi, HN, HM⟩ := hrel
    by_cases hlt : i < Fs.length
    · have hlt' : (i : Int) < (Fs.length : Int) := by omega
      obtain ⟨F, hF⟩ : ∃ F, Fs[i]? = some F := ⟨_, List.getElem?_eq_getElem hlt⟩
      obtain ⟨b, off, ho, d0, d1, d3⟩ := (H.out.below HM.out).at hF
      have hsm := HS.out F (List.mem_of_getElem? hF)
      have ha : (F.s.2.2.length : Int) ≤ 1048576 := by have := hsm.s; omega
      have hb : (F.o.2.2.length : Int) ≤ 1048576 := by have := hsm.o; omega
      have hcc : (F.a.2.2.length : Int) ≤ 1048576 := by have := hsm.a; omega
      have HF := hide' hF
      clear hF hsm
      have Ho := hide' ho
      rw [ho]
      clear ho
      go_wp2_with fail
      go_quiet (fail)
      clear d0 d1 d3
      go_wp2_with fail
      all_goals first
        | (refine ⟨⟨i + 1, by go_num, by omega, any_take HF.out HN.out (vst7 ‹_› ‹_› ‹_› ‹_› ‹_›), HM.out.trans (U.bdrew _ _)⟩, by simp [intOf]; omega⟩)
        | (go_ret; refine ⟨?_, HM.out.trans (U.bdrew _ _)⟩; rw [any_hit HF.out (by first | exact vst6 ‹_› ‹_› ‹_› ‹_› ‹_› | exact U.vst4 ‹_› ‹_› ‹_› | exact U.vst3 ‹_› | exact U.vst2 ‹_› | exact U.vst1 ‹_›)]; rfl)
    · have hin : Fs.length = i := by omega
      have hlt' : ¬ (i : Int) < (Fs.length : Int) := by omega
      subst hin
      have HN2 : Hid (Fs.any vs = false) := by have q := HN.out; rw [List.take_length] at q; exact q
      clear HN
      go_wp2_with fail
      go_ret
      exact ⟨by rw [HN2.out]; rfl, HM.out⟩
end D
end Go.Proofs.Ytollaamlnddhcaa
set_option linter.unusedVariables false
set_option linter.unusedSimpArgs false
namespace Go.Proofs.Ytollaamlnddhcaa
open Go.RowKit Go.Maps
abbrev kSpare : ByteArray := ⟨#[115, 112, 97, 114, 101]⟩
theorem own_cut {w : World} {B e m n k c : Nat} {o : Option Addr} {xs ys : List Value} (h : w.ownsRow B e m (.slice o (n + k) c) (n + k) (xs ++ ys)) (hx : xs.length = n * m) : w.ownsRow B e m (.slice o n c) n xs := by
  obtain ⟨h1, h2⟩ := h
  refine ⟨hx, ?_⟩
  rcases h2 with ⟨hv, h0⟩ | ⟨g, cap', cur, hv, hb, hg, e1, e2, e3, e4⟩
  · simp only [Value.slice.injEq] at hv
    exact .inl ⟨by rw [hv.1, hv.2.2]; congr 1; omega, by omega⟩
  · simp only [Value.slice.injEq] at hv
    obtain ⟨rfl, _, rfl⟩ := hv
    refine .inr ⟨g, _, cur, rfl, hb, hg, by omega, e2, e3, ?_⟩
    have q := congrArg (List.take (n * m)) e4
    rw [List.take_take, Nat.min_eq_left (Nat.mul_le_mul_right m (by omega))] at q
    rw [q, List.take_append_of_le_length (by omega), ← hx, List.take_length]
namespace S
set_option maxRecDepth 100000 in
set_option maxHeartbeats 8000000 in
theorem names_any (ro : Option Addr) (rc : Nat) (row : List ByteArray) (w : World) (hI : Ints ro row w) (hn : ro = none → rc = 0) (hl : row.length ≤ 1048576) : Calls Try.prog 29 #[.slice ro row.length rc] w fun e w' => ∃ o c, e = .returned (.slice o row.length c) ∧ RowI w.heap.size o c row w' ∧ Below w.heap.size w w' := by
  have HI := hide' hI
  have HN := hide' hn
  have hb : Hid (row.length < 4398046511104) := by show _ < _; omega
  have hl64 : (row.length : Int) ≤ 1048576 := by omega
  clear hI hn
  go_enter Try.func29, Try.ntmps29
  go_wp2_with (at_builtin; refine wpList_appS _ rfl _ _ rfl w.heap.size ro rc row rfl rfl HI.out HN.out hb (Nat.le_refl _) ?_; intro o1 c1 w1 r1 b1; have E1 := hide' (And.intro r1 b1); clear r1 b1)
  go_loopw [3, 4] (fun mv iv wx => ∃ (i : Nat) (o : Option Addr) (c : Nat) (zs : List ByteArray), iv = .int .i64 (i : Int) ∧ mv = .slice o zs.length c ∧ i ≤ 20 ∧ Hid (zs = row ++ List.replicate i kSpare ∧ RowI w.heap.size o c zs wx ∧ Below w.heap.size w wx)) (fun _ iv _ => 20 - (intOf iv).toNat)
  case atStart => exact ⟨0, o1, c1, row, rfl, rfl, by omega, by simp, E1.out⟩
  case round =>
    obtain ⟨i, o, c, zs, rfl, rfl, hi, HM⟩ := hrel
    clear E1
    have hzl : Hid (zs.length = row.length + i) := by show _ = _; rw [HM.out.1, List.length_append, List.length_replicate]
    by_cases hlt : i < 20
    · have hlt' : (i : Int) < 20 := by omega
      have hb2 : Hid (zs.length < 4398046511104) := by have := hzl.out; show _ < _; omega
      have hw := HM.out.2.2.size
      go_wp2_with (at_builtin; refine wpList_app1 wr rfl _ _ rfl w.heap.size o c zs kSpare _ 1 rfl HM.out.2.1 rfl hb2 HM.out.2.2.size ?_; intro g cg w8 hr8 ht8 ho8 hl8; have M8 := hide' (And.intro hr8 ht8); clear hr8 ht8 ho8 hl8)
      refine ⟨⟨i + 1, some ⟨g, 0, none⟩, cg, zs ++ [kSpare], by go_num, by rw [List.length_append]; rfl, by omega, ?_, M8.out.1, HM.out.2.2.trans (below_own M8.out.2 (fun k q => (HM.out.2.1.lt k q).1) HM.out.2.2.size)⟩, by simp [intOf]; omega⟩
      rw [HM.out.1, List.append_assoc, ← List.replicate_succ']
    · have hi20 : i = 20 := by omega
      subst hi20
      have hcap := HM.out.2.1.cap
      have hc2 : row.length ≤ c := by have := hzl.out; omega
      have hc3 : row.length ≤ zs.length := by have := hzl.out; omega
      have HF : Hid (RowI w.heap.size o c row wr ∧ Below w.heap.size w wr) := by
        refine ⟨?_, HM.out.2.2⟩
        have r := HM.out.2.1
        unfold RowI at r ⊢
        rw [hzl.out, HM.out.1, List.flatMap_append] at r
        exact own_cut r (by rw [flatL, Nat.mul_one])
      rcases HM.out.2.1.form with ⟨_, e, _⟩ | ⟨g, e, _⟩
      · have := hzl.out; rw [e] at this; simp at this
      subst e
      clear HM hcap
      go_wp2_with fail
      go_ret
      exact ⟨_, _, rfl, HF.out.1, HF.out.2⟩
end S
namespace Q
set_option maxRecDepth 100000 in
set_option maxHeartbeats 8000000 in
theorem names_any (ro : Option Addr) (rc : Nat) (row : List K2) (w : World) (hI : Ints ro row w) (hn : ro = none → rc = 0) (hl : row.length ≤ 1048576) : Calls Try.prog 30 #[.slice ro row.length rc] w fun e w' => ∃ o c, e = .returned (.slice o row.length c) ∧ RowI w.heap.size o c row w' ∧ Below w.heap.size w w' := by
  have HI := hide' hI
  have HN := hide' hn
  have hb : Hid (row.length < 1099511627776) := by show _ < _; omega
  have hl64 : (row.length : Int) ≤ 1048576 := by omega
  clear hI hn
  go_enter Try.func30, Try.ntmps30
  go_wp2_with (at_builtin; refine wpList_appS _ rfl _ _ rfl w.heap.size ro rc row rfl rfl HI.out HN.out hb (Nat.le_refl _) ?_; intro o1 c1 w1 r1 b1; have E1 := hide' (And.intro r1 b1); clear r1 b1)
  go_loopw [3, 4] (fun mv iv wx => ∃ (i : Nat) (o : Option Addr) (c : Nat) (zs : List K2), iv = .int .i64 (i : Int) ∧ mv = .slice o zs.length c ∧ i ≤ 20 ∧ Hid (zs = row ++ List.replicate i (kSpare, ⟨#[]⟩) ∧ RowI w.heap.size o c zs wx ∧ Below w.heap.size w wx)) (fun _ iv _ => 20 - (intOf iv).toNat)
  case atStart => exact ⟨0, o1, c1, row, rfl, rfl, by omega, by simp, E1.out⟩
  case round =>
    obtain ⟨i, o, c, zs, rfl, rfl, hi, HM⟩ := hrel
    clear E1
    have hzl : Hid (zs.length = row.length + i) := by show _ = _; rw [HM.out.1, List.length_append, List.length_replicate]
    by_cases hlt : i < 20
    · have hlt' : (i : Int) < 20 := by omega
      have hb2 : Hid (zs.length < 1099511627776) := by have := hzl.out; show _ < _; omega
      have hw := HM.out.2.2.size
      go_wp2_with (at_builtin; refine wpList_app1 wr rfl _ _ rfl w.heap.size o c zs (kSpare, ⟨#[]⟩) _ 1 rfl HM.out.2.1 rfl hb2 HM.out.2.2.size ?_; intro g cg w8 hr8 ht8 ho8 hl8; have M8 := hide' (And.intro hr8 ht8); clear hr8 ht8 ho8 hl8)
      refine ⟨⟨i + 1, some ⟨g, 0, none⟩, cg, zs ++ [(kSpare, ⟨#[]⟩)], by go_num, by rw [List.length_append]; rfl, by omega, ?_, M8.out.1, HM.out.2.2.trans (below_own M8.out.2 (fun k q => (HM.out.2.1.lt k q).1) HM.out.2.2.size)⟩, by simp [intOf]; omega⟩
      rw [HM.out.1, List.append_assoc, ← List.replicate_succ']
    · have hi20 : i = 20 := by omega
      subst hi20
      have hcap := HM.out.2.1.cap
      have hc2 : row.length ≤ c := by have := hzl.out; omega
      have hc3 : row.length ≤ zs.length := by have := hzl.out; omega
      have HF : Hid (RowI w.heap.size o c row wr ∧ Below w.heap.size w wr) := by
        refine ⟨?_, HM.out.2.2⟩
        have r := HM.out.2.1
        unfold RowI at r ⊢
        rw [hzl.out, HM.out.1, List.flatMap_append] at r
        exact own_cut r (flat_len row)
      rcases HM.out.2.1.form with ⟨_, e, _⟩ | ⟨g, e, _⟩
      · have := hzl.out; rw [e] at this; simp at this
      subst e
      clear HM hcap
      go_wp2_with fail
      go_ret
      exact ⟨_, _, rfl, HF.out.1, HF.out.2⟩
end Q
namespace X
set_option maxRecDepth 100000 in
set_option maxHeartbeats 8000000 in
theorem names_any (ro : Option Addr) (rc : Nat) (row : List K3) (w : World) (hI : Ints ro row w) (hn : ro = none → rc = 0) (hl : row.length ≤ 1048576) : Calls Try.prog 31 #[.slice ro row.length rc] w fun e w' => ∃ o c, e = .returned (.slice o row.length c) ∧ RowI w.heap.size o c row w' ∧ Below w.heap.size w w' := by
  have HI := hide' hI
  have HN := hide' hn
  have hb : Hid (row.length < 1099511627776) := by show _ < _; omega
  have hl64 : (row.length : Int) ≤ 1048576 := by omega
  clear hI hn
  go_enter Try.func31, Try.ntmps31
  go_wp2_with (at_builtin; refine wpList_appS _ rfl _ _ rfl w.heap.size ro rc row rfl rfl HI.out HN.out hb (Nat.le_refl _) ?_; intro o1 c1 w1 r1 b1; have E1 := hide' (And.intro r1 b1); clear r1 b1)
  go_loopw [3, 4] (fun mv iv wx => ∃ (i : Nat) (o : Option Addr) (c : Nat) (zs : List K3), iv = .int .i64 (i : Int) ∧ mv = .slice o zs.length c ∧ i ≤ 20 ∧ Hid (zs = row ++ List.replicate i (kSpare, ⟨#[]⟩, ⟨#[]⟩) ∧ RowI w.heap.size o c zs wx ∧ Below w.heap.size w wx)) (fun _ iv _ => 20 - (intOf iv).toNat)
  case atStart => exact ⟨0, o1, c1, row, rfl, rfl, by omega, by simp, E1.out⟩
  case round =>
    obtain ⟨i, o, c, zs, rfl, rfl, hi, HM⟩ := hrel
    clear E1
    have hzl : Hid (zs.length = row.length + i) := by show _ = _; rw [HM.out.1, List.length_append, List.length_replicate]
    by_cases hlt : i < 20
    · have hlt' : (i : Int) < 20 := by omega
      have hb2 : Hid (zs.length < 1099511627776) := by have := hzl.out; show _ < _; omega
      have hw := HM.out.2.2.size
      go_wp2_with (at_builtin; refine wpList_app1 wr rfl _ _ rfl w.heap.size o c zs (kSpare, ⟨#[]⟩, ⟨#[]⟩) _ 1 rfl HM.out.2.1 rfl hb2 HM.out.2.2.size ?_; intro g cg w8 hr8 ht8 ho8 hl8; have M8 := hide' (And.intro hr8 ht8); clear hr8 ht8 ho8 hl8)
      refine ⟨⟨i + 1, some ⟨g, 0, none⟩, cg, zs ++ [(kSpare, ⟨#[]⟩, ⟨#[]⟩)], by go_num, by rw [List.length_append]; rfl, by omega, ?_, M8.out.1, HM.out.2.2.trans (below_own M8.out.2 (fun k q => (HM.out.2.1.lt k q).1) HM.out.2.2.size)⟩, by simp [intOf]; omega⟩
      rw [HM.out.1, List.append_assoc, ← List.replicate_succ']
    · have hi20 : i = 20 := by omega
      subst hi20
      have hcap := HM.out.2.1.cap
      have hc2 : row.length ≤ c := by have := hzl.out; omega
      have hc3 : row.length ≤ zs.length := by have := hzl.out; omega
      have HF : Hid (RowI w.heap.size o c row wr ∧ Below w.heap.size w wr) := by
        refine ⟨?_, HM.out.2.2⟩
        have r := HM.out.2.1
        unfold RowI at r ⊢
        rw [hzl.out, HM.out.1, List.flatMap_append] at r
        exact own_cut r (flat_len row)
      rcases HM.out.2.1.form with ⟨_, e, _⟩ | ⟨g, e, _⟩
      · have := hzl.out; rw [e] at this; simp at this
      subst e
      clear HM hcap
      go_wp2_with fail
      go_ret
      exact ⟨_, _, rfl, HF.out.1, HF.out.2⟩
end X
end Go.Proofs.Ytollaamlnddhcaa
