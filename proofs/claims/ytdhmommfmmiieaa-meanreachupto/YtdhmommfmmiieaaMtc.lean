import Derived.Test.YtdhmommfmmiieaaOob
import Derived.Deep.RegionHeld3
set_option linter.unusedVariables false
set_option linter.unusedSimpArgs false
namespace Go.Proofs.Ytdhmommfmmiieaa
open Go.RowKit Go.Maps
namespace U
/-- a rule -/
structure Ru where
  d : Value
  who : ByteArray
  what : ByteArray
  ro : Option Addr
  rc : Nat
  rl : List ByteArray
  cd : Int
  lv : Nat
def Ru.val (R : Ru) : Value := .agg #[R.d, .string R.who, .string R.what, .slice R.ro R.rl.length R.rc, .int .i8 R.cd, .float .f64 R.lv]
/-- 8.2 -/
def mtc (P : Po) (R : Ru) (ts to ta : ByteArray) : Bool := isIn P.al ta && (R.rl.isEmpty || isIn R.rl ta) && (match tru P.sl ts with | some t => isIn (N.clo (P.m.2.2 ++ P.i.2.2) ts) R.who && M.pass R.cd R.lv t | none => false) && (isIn P.ol to && isIn (N.clo (P.p.2.2 ++ P.w.2.2) to) R.what)
theorem isIn_iff {l m : List ByteArray} (h : ∀ y, y ∈ l ↔ y ∈ m) (y : ByteArray) : isIn l y = isIn m y := by
  cases e : isIn m y with
  | true => exact isIn_yes ((h y).2 (by simpa [isIn] using e))
  | false => exact isIn_no (fun q => by rw [isIn_yes ((h y).1 q)] at e; cases e)

set_option maxRecDepth 100000 in
set_option maxHeartbeats 8000000 in
theorem matches_any (P : Po) (R : Ru) (ts to ta : ByteArray) (w : World) (h : P.In w) (hs : P.Small) (hr : S.Ints R.ro R.rl w) (hrc : R.rl.length ≤ R.rc) (hz : ts.size ≤ 1048576 ∧ to.size ≤ 1048576 ∧ R.who.size ≤ 1048576 ∧ R.what.size ≤ 1048576 ∧ R.rl.length ≤ 1048576) :
    Calls Try.prog 19 #[P.val, R.val, .agg #[.string ts, .string to, .string ta]] w fun e w' => e = .returned (.bool (mtc P R ts to ta)) ∧ Below w.heap.size w w' := by
  have hsf : ∀ (a : Addr) (k : FloatKind) (b : Nat) (m : Mode) (w : World), (store a (.float k b) m).run Try.prog w = stored Try.prog w a (.float k b) m := fun a k b m w => run_store Try.prog w a _ m rfl
  have H := hide' h
  have Hs := hide' hs
  have Hr := hide' hr
  have hac := h.ac
  have hr64 : (R.rl.length : Int) ≤ 1048576 := by omega
  clear h hs hr
  have hPv : Hid (P.val = .agg #[.slice P.ao P.al.length P.ac, .slice P.so P.sl.length P.sc, P.ro, .slice P.oo P.ol.length P.oc, P.gr, .slice P.m.1 P.m.2.2.length P.m.2.1, .slice P.i.1 P.i.2.2.length P.i.2.1, .slice P.p.1 P.p.2.2.length P.p.2.1, .slice P.w.1 P.w.2.2.length P.w.2.1, P.ru, P.ex]) := rfl
  have hRv : Hid (R.val = .agg #[R.d, .string R.who, .string R.what, .slice R.ro R.rl.length R.rc, .int .i8 R.cd, .float .f64 R.lv]) := rfl
  rw [hPv.out, hRv.out]
  go_enter Try.func19, Try.ntmps19
  go_wp2_with fail
  obtain ⟨V, hV⟩ : ∃ V, V = (((w.alloc (.cells #[.slice P.ao P.al.length P.ac, .slice P.so P.sl.length P.sc, P.ro, .slice P.oo P.ol.length P.oc, P.gr, .slice P.m.1 P.m.2.2.length P.m.2.1, .slice P.i.1 P.i.2.2.length P.i.2.1, .slice P.p.1 P.p.2.2.length P.p.2.1, .slice P.w.1 P.w.2.2.length P.w.2.1, P.ru, P.ex] 34)).alloc (.cells #[R.d, .string R.who, .string R.what, .slice R.ro R.rl.length R.rc, .int .i8 R.cd, .float .f64 R.lv] 27)).alloc (.cells #[.string ts, .string to, .string ta] 36)) := ⟨_, rfl⟩
  rw [← hV]
  have F : Hid (V.heap.size = w.heap.size + 3 ∧ Below w.heap.size w V ∧ V.heap[w.heap.size]? = some (.cells #[.slice P.ao P.al.length P.ac, .slice P.so P.sl.length P.sc, P.ro, .slice P.oo P.ol.length P.oc, P.gr, .slice P.m.1 P.m.2.2.length P.m.2.1, .slice P.i.1 P.i.2.2.length P.i.2.1, .slice P.p.1 P.p.2.2.length P.p.2.1, .slice P.w.1 P.w.2.2.length P.w.2.1, P.ru, P.ex] 34 (0, 0)) ∧ V.heap[w.heap.size + 1]? = some (.cells #[R.d, .string R.who, .string R.what, .slice R.ro R.rl.length R.rc, .int .i8 R.cd, .float .f64 R.lv] 27 (0, 0)) ∧ V.heap[w.heap.size + 1 + 1]? = some (.cells #[.string ts, .string to, .string ta] 36 (0, 0))) := by
    generalize (.cells #[.slice P.ao P.al.length P.ac, .slice P.so P.sl.length P.sc, P.ro, .slice P.oo P.ol.length P.oc, P.gr, .slice P.m.1 P.m.2.2.length P.m.2.1, .slice P.i.1 P.i.2.2.length P.i.2.1, .slice P.p.1 P.p.2.2.length P.p.2.1, .slice P.w.1 P.w.2.2.length P.w.2.1, P.ru, P.ex] 34 : Obj) = o1 at *
    generalize (.cells #[R.d, .string R.who, .string R.what, .slice R.ro R.rl.length R.rc, .int .i8 R.cd, .float .f64 R.lv] 27 : Obj) = o2 at *
    have a1 := heap_alloc_new w o1
    have a2 := heap_alloc_new (w.alloc o1) o2
    have a3 := heap_alloc_new ((w.alloc o1).alloc o2) (.cells #[.string ts, .string to, .string ta] 36)
    have z1 : (w.alloc o1).heap.size = w.heap.size + 1 := by simp
    have z2 : ((w.alloc o1).alloc o2).heap.size = w.heap.size + 1 + 1 := by simp
    rw [z1] at a2
    rw [z2] at a3
    rw [hV]
    exact ⟨by simp, (((Below.refl _ _).alloc (Nat.le_refl _) _).alloc (by simp) _).alloc (by simp; omega) _, (Below.heap_alloc _ _ _ (by omega)).trans ((Below.heap_alloc _ _ _ (by omega)).trans a1), (Below.heap_alloc _ _ _ (by omega)).trans a2, a3⟩
  clear hV
  obtain ⟨sV, bV, f1, f2, f3⟩ := F.out
  have HI := hide' (H.out.below bV)
  have HR := hide' (Hr.out.below bV)
  have HbV := hide' bV
  obtain ⟨q0, hq0⟩ : ∃ q0, q0 = w.heap.size := ⟨_, rfl⟩
  generalize hq2 : w.heap.size + 1 + 1 = q2 at *
  generalize hq1 : w.heap.size + 1 = q1 at *
  rw [← hq0]
  rw [← hq0] at f1
  have hls : q0 < V.heap.size ∧ q1 < V.heap.size ∧ q2 < V.heap.size := ⟨by omega, by omega, by omega⟩
  have K1 : V.cell? ⟨q0, 0, none⟩ = some (.slice P.ao P.al.length P.ac) ∧ V.cell? ⟨q0, 1, none⟩ = some (.slice P.so P.sl.length P.sc) ∧ V.cell? ⟨q0, 2, none⟩ = some P.ro ∧ V.cell? ⟨q0, 3, none⟩ = some (.slice P.oo P.ol.length P.oc) ∧ V.cell? ⟨q0, 4, none⟩ = some P.gr ∧ V.cell? ⟨q0, 5, none⟩ = some (.slice P.m.1 P.m.2.2.length P.m.2.1) ∧ V.cell? ⟨q0, 6, none⟩ = some (.slice P.i.1 P.i.2.2.length P.i.2.1) ∧ V.cell? ⟨q0, 7, none⟩ = some (.slice P.p.1 P.p.2.2.length P.p.2.1) ∧ V.cell? ⟨q0, 8, none⟩ = some (.slice P.w.1 P.w.2.2.length P.w.2.1) ∧ V.cell? ⟨q0, 9, none⟩ = some P.ru ∧ V.cell? ⟨q0, 10, none⟩ = some P.ex ∧ V.cell? ⟨q1, 0, none⟩ = some R.d ∧ V.cell? ⟨q1, 1, none⟩ = some (.string R.who) ∧ V.cell? ⟨q1, 2, none⟩ = some (.string R.what) ∧ V.cell? ⟨q1, 3, none⟩ = some (.slice R.ro R.rl.length R.rc) ∧ V.cell? ⟨q1, 4, none⟩ = some (.int .i8 R.cd) ∧ V.cell? ⟨q1, 5, none⟩ = some (.float .f64 R.lv) ∧ V.cell? ⟨q2, 0, none⟩ = some (.string ts) ∧ V.cell? ⟨q2, 1, none⟩ = some (.string to) ∧ V.cell? ⟨q2, 2, none⟩ = some (.string ta) := ⟨by rw [Lib.cell_of_heap f1]; rfl, by rw [Lib.cell_of_heap f1]; rfl, by rw [Lib.cell_of_heap f1]; rfl, by rw [Lib.cell_of_heap f1]; rfl, by rw [Lib.cell_of_heap f1]; rfl, by rw [Lib.cell_of_heap f1]; rfl, by rw [Lib.cell_of_heap f1]; rfl, by rw [Lib.cell_of_heap f1]; rfl, by rw [Lib.cell_of_heap f1]; rfl, by rw [Lib.cell_of_heap f1]; rfl, by rw [Lib.cell_of_heap f1]; rfl, by rw [Lib.cell_of_heap f2]; rfl, by rw [Lib.cell_of_heap f2]; rfl, by rw [Lib.cell_of_heap f2]; rfl, by rw [Lib.cell_of_heap f2]; rfl, by rw [Lib.cell_of_heap f2]; rfl, by rw [Lib.cell_of_heap f2]; rfl, by rw [Lib.cell_of_heap f3]; rfl, by rw [Lib.cell_of_heap f3]; rfl, by rw [Lib.cell_of_heap f3]; rfl⟩
  have KS : Hid (∀ w', Below V.heap.size V w' → w'.cell? ⟨q0, 0, none⟩ = some (.slice P.ao P.al.length P.ac) ∧ w'.cell? ⟨q0, 1, none⟩ = some (.slice P.so P.sl.length P.sc) ∧ w'.cell? ⟨q0, 2, none⟩ = some P.ro ∧ w'.cell? ⟨q0, 3, none⟩ = some (.slice P.oo P.ol.length P.oc) ∧ w'.cell? ⟨q0, 4, none⟩ = some P.gr ∧ w'.cell? ⟨q0, 5, none⟩ = some (.slice P.m.1 P.m.2.2.length P.m.2.1) ∧ w'.cell? ⟨q0, 6, none⟩ = some (.slice P.i.1 P.i.2.2.length P.i.2.1) ∧ w'.cell? ⟨q0, 7, none⟩ = some (.slice P.p.1 P.p.2.2.length P.p.2.1) ∧ w'.cell? ⟨q0, 8, none⟩ = some (.slice P.w.1 P.w.2.2.length P.w.2.1) ∧ w'.cell? ⟨q0, 9, none⟩ = some P.ru ∧ w'.cell? ⟨q0, 10, none⟩ = some P.ex ∧ w'.cell? ⟨q1, 0, none⟩ = some R.d ∧ w'.cell? ⟨q1, 1, none⟩ = some (.string R.who) ∧ w'.cell? ⟨q1, 2, none⟩ = some (.string R.what) ∧ w'.cell? ⟨q1, 3, none⟩ = some (.slice R.ro R.rl.length R.rc) ∧ w'.cell? ⟨q1, 4, none⟩ = some (.int .i8 R.cd) ∧ w'.cell? ⟨q1, 5, none⟩ = some (.float .f64 R.lv) ∧ w'.cell? ⟨q2, 0, none⟩ = some (.string ts) ∧ w'.cell? ⟨q2, 1, none⟩ = some (.string to) ∧ w'.cell? ⟨q2, 2, none⟩ = some (.string ta)) := fun w' b => ⟨(b.cell (p := ⟨q0, 0, none⟩) hls.1).trans K1.1, (b.cell (p := ⟨q0, 1, none⟩) hls.1).trans K1.2.1, (b.cell (p := ⟨q0, 2, none⟩) hls.1).trans K1.2.2.1, (b.cell (p := ⟨q0, 3, none⟩) hls.1).trans K1.2.2.2.1, (b.cell (p := ⟨q0, 4, none⟩) hls.1).trans K1.2.2.2.2.1, (b.cell (p := ⟨q0, 5, none⟩) hls.1).trans K1.2.2.2.2.2.1, (b.cell (p := ⟨q0, 6, none⟩) hls.1).trans K1.2.2.2.2.2.2.1, (b.cell (p := ⟨q0, 7, none⟩) hls.1).trans K1.2.2.2.2.2.2.2.1, (b.cell (p := ⟨q0, 8, none⟩) hls.1).trans K1.2.2.2.2.2.2.2.2.1, (b.cell (p := ⟨q0, 9, none⟩) hls.1).trans K1.2.2.2.2.2.2.2.2.2.1, (b.cell (p := ⟨q0, 10, none⟩) hls.1).trans K1.2.2.2.2.2.2.2.2.2.2.1, (b.cell (p := ⟨q1, 0, none⟩) hls.2.1).trans K1.2.2.2.2.2.2.2.2.2.2.2.1, (b.cell (p := ⟨q1, 1, none⟩) hls.2.1).trans K1.2.2.2.2.2.2.2.2.2.2.2.2.1, (b.cell (p := ⟨q1, 2, none⟩) hls.2.1).trans K1.2.2.2.2.2.2.2.2.2.2.2.2.2.1, (b.cell (p := ⟨q1, 3, none⟩) hls.2.1).trans K1.2.2.2.2.2.2.2.2.2.2.2.2.2.2.1, (b.cell (p := ⟨q1, 4, none⟩) hls.2.1).trans K1.2.2.2.2.2.2.2.2.2.2.2.2.2.2.2.1, (b.cell (p := ⟨q1, 5, none⟩) hls.2.1).trans K1.2.2.2.2.2.2.2.2.2.2.2.2.2.2.2.2.1, (b.cell (p := ⟨q2, 0, none⟩) hls.2.2).trans K1.2.2.2.2.2.2.2.2.2.2.2.2.2.2.2.2.2.1, (b.cell (p := ⟨q2, 1, none⟩) hls.2.2).trans K1.2.2.2.2.2.2.2.2.2.2.2.2.2.2.2.2.2.2.1, (b.cell (p := ⟨q2, 2, none⟩) hls.2.2).trans K1.2.2.2.2.2.2.2.2.2.2.2.2.2.2.2.2.2.2.2⟩
  have hlsH := hide' hls
  clear F sV bV f1 f2 f3 hq0 hq1 hq2 hls H Hr
  have K1H := hide' K1
  obtain ⟨e0, e1, e2, e3, e4, e5, e6, e7, e8, e9, e10, e11, e12, e13, e14, e15, e16, e17, e18, e19⟩ := K1
  refine (S.contains_any P.ao P.ac P.al ta V HI.out.a HI.out.ac (by show _ < _; have := Hs.out.a; omega)).mono ?_
  rintro e V1 ⟨rfl, rfl⟩
  rename World => V
  cases hact : isIn P.al ta with
  | false =>
    have hm : Hid (mtc P R ts to ta = false) := by show _ = _; unfold mtc; rw [hact]; rfl
    go_wp2_with fail
    go_ret
    exact ⟨congrArg (Ending.returned ∘ Value.bool) hm.out.symm, HbV.out⟩
  | true =>
    have C1 := hide' (S.contains_any R.ro R.rc R.rl ta V HR.out hrc (by show _ < _; omega))
    have C2 := hide' (subjectOf_any P ts V HI.out Hs.out hz.1)
    rw [hPv.out] at C2
    by_cases hemp : R.rl.length = 0
    · have hemp' : (R.rl.length : Int) = 0 := by omega
      have hspb : (R.rl.isEmpty || isIn R.rl ta) = true := by rw [List.isEmpty_iff_length_eq_zero.2 hemp]; rfl
      go_wp2_with fail
      clear hemp hemp'
      refine C2.out.mono ?_
      rintro e w1 hsub
      rcases hsub with ⟨t, ht, nb, ms, rfl, hnb, hN, hmem, b1⟩ | ⟨ht, rfl, b1⟩
      · have b2 : Hid (Below V.heap.size V (w1.alloc (.cells #[.string ts, .float .f64 t, .map (some nb)] 66))) := b1.trans (((Below.refl _ _).alloc (Nat.le_refl _) _).mono b1.size)
        have g2 := heap_alloc_new w1 (.cells #[.string ts, .float .f64 t, .map (some nb)] 66)
        have hw2 : Hid (Below w.heap.size w (w1.alloc (.cells #[.string ts, .float .f64 t, .map (some nb)] 66))) := HbV.out.trans (b2.out.mono HbV.out.size)
        have hI2 := hide' (HI.out.below b2.out)
        have hN2 := hide' (hN.turn ((Turn.refl (fun _ => False) w1).alloc (.cells #[.string ts, .float .f64 t, .map (some nb)] 66)) id)
        obtain ⟨e0, e1, e2, e3, e4, e5, e6, e7, e8, e9, e10, e11, e12, e13, e14, e15, e16, e17, e18, e19⟩ := KS.out _ b2.out
        have u0 : (w1.alloc (.cells #[.string ts, .float .f64 t, .map (some nb)] 66)).cell? ⟨w1.heap.size, 0, none⟩ = some (.string ts) := by rw [Lib.cell_of_heap g2]; rfl
        have u1 : (w1.alloc (.cells #[.string ts, .float .f64 t, .map (some nb)] 66)).cell? ⟨w1.heap.size, 1, none⟩ = some (.float .f64 t) := by rw [Lib.cell_of_heap g2]; rfl
        have u2 : (w1.alloc (.cells #[.string ts, .float .f64 t, .map (some nb)] 66)).cell? ⟨w1.heap.size, 2, none⟩ = some (.map (some nb)) := by rw [Lib.cell_of_heap g2]; rfl
        have hpl := lt_of_heap g2
        have hbl := b2.out.size
        go_wp2_with fail
        clear g2
        generalize w1.heap.size = pb at *
        generalize w1.alloc (.cells #[.string ts, .float .f64 t, .map (some nb)] 66) = w2 at *
        have KT : Hid (∀ w', Below w2.heap.size w2 w' → w'.cell? ⟨q0, 0, none⟩ = some (.slice P.ao P.al.length P.ac) ∧ w'.cell? ⟨q0, 1, none⟩ = some (.slice P.so P.sl.length P.sc) ∧ w'.cell? ⟨q0, 2, none⟩ = some P.ro ∧ w'.cell? ⟨q0, 3, none⟩ = some (.slice P.oo P.ol.length P.oc) ∧ w'.cell? ⟨q0, 4, none⟩ = some P.gr ∧ w'.cell? ⟨q0, 5, none⟩ = some (.slice P.m.1 P.m.2.2.length P.m.2.1) ∧ w'.cell? ⟨q0, 6, none⟩ = some (.slice P.i.1 P.i.2.2.length P.i.2.1) ∧ w'.cell? ⟨q0, 7, none⟩ = some (.slice P.p.1 P.p.2.2.length P.p.2.1) ∧ w'.cell? ⟨q0, 8, none⟩ = some (.slice P.w.1 P.w.2.2.length P.w.2.1) ∧ w'.cell? ⟨q0, 9, none⟩ = some P.ru ∧ w'.cell? ⟨q0, 10, none⟩ = some P.ex ∧ w'.cell? ⟨q1, 0, none⟩ = some R.d ∧ w'.cell? ⟨q1, 1, none⟩ = some (.string R.who) ∧ w'.cell? ⟨q1, 2, none⟩ = some (.string R.what) ∧ w'.cell? ⟨q1, 3, none⟩ = some (.slice R.ro R.rl.length R.rc) ∧ w'.cell? ⟨q1, 4, none⟩ = some (.int .i8 R.cd) ∧ w'.cell? ⟨q1, 5, none⟩ = some (.float .f64 R.lv) ∧ w'.cell? ⟨q2, 0, none⟩ = some (.string ts) ∧ w'.cell? ⟨q2, 1, none⟩ = some (.string to) ∧ w'.cell? ⟨q2, 2, none⟩ = some (.string ta) ∧ w'.cell? ⟨pb, 0, none⟩ = some (.string ts) ∧ w'.cell? ⟨pb, 1, none⟩ = some (.float .f64 t) ∧ w'.cell? ⟨pb, 2, none⟩ = some (.map (some nb))) := fun w' b => ⟨(b.cell (p := ⟨q0, 0, none⟩) (Nat.lt_of_lt_of_le hlsH.out.1 hbl)).trans e0, (b.cell (p := ⟨q0, 1, none⟩) (Nat.lt_of_lt_of_le hlsH.out.1 hbl)).trans e1, (b.cell (p := ⟨q0, 2, none⟩) (Nat.lt_of_lt_of_le hlsH.out.1 hbl)).trans e2, (b.cell (p := ⟨q0, 3, none⟩) (Nat.lt_of_lt_of_le hlsH.out.1 hbl)).trans e3, (b.cell (p := ⟨q0, 4, none⟩) (Nat.lt_of_lt_of_le hlsH.out.1 hbl)).trans e4, (b.cell (p := ⟨q0, 5, none⟩) (Nat.lt_of_lt_of_le hlsH.out.1 hbl)).trans e5, (b.cell (p := ⟨q0, 6, none⟩) (Nat.lt_of_lt_of_le hlsH.out.1 hbl)).trans e6, (b.cell (p := ⟨q0, 7, none⟩) (Nat.lt_of_lt_of_le hlsH.out.1 hbl)).trans e7, (b.cell (p := ⟨q0, 8, none⟩) (Nat.lt_of_lt_of_le hlsH.out.1 hbl)).trans e8, (b.cell (p := ⟨q0, 9, none⟩) (Nat.lt_of_lt_of_le hlsH.out.1 hbl)).trans e9, (b.cell (p := ⟨q0, 10, none⟩) (Nat.lt_of_lt_of_le hlsH.out.1 hbl)).trans e10, (b.cell (p := ⟨q1, 0, none⟩) (Nat.lt_of_lt_of_le hlsH.out.2.1 hbl)).trans e11, (b.cell (p := ⟨q1, 1, none⟩) (Nat.lt_of_lt_of_le hlsH.out.2.1 hbl)).trans e12, (b.cell (p := ⟨q1, 2, none⟩) (Nat.lt_of_lt_of_le hlsH.out.2.1 hbl)).trans e13, (b.cell (p := ⟨q1, 3, none⟩) (Nat.lt_of_lt_of_le hlsH.out.2.1 hbl)).trans e14, (b.cell (p := ⟨q1, 4, none⟩) (Nat.lt_of_lt_of_le hlsH.out.2.1 hbl)).trans e15, (b.cell (p := ⟨q1, 5, none⟩) (Nat.lt_of_lt_of_le hlsH.out.2.1 hbl)).trans e16, (b.cell (p := ⟨q2, 0, none⟩) (Nat.lt_of_lt_of_le hlsH.out.2.2 hbl)).trans e17, (b.cell (p := ⟨q2, 1, none⟩) (Nat.lt_of_lt_of_le hlsH.out.2.2 hbl)).trans e18, (b.cell (p := ⟨q2, 2, none⟩) (Nat.lt_of_lt_of_le hlsH.out.2.2 hbl)).trans e19, (b.cell (p := ⟨pb, 0, none⟩) hpl).trans u0, (b.cell (p := ⟨pb, 1, none⟩) hpl).trans u1, (b.cell (p := ⟨pb, 2, none⟩) hpl).trans u2⟩
        have hd : Below w2.heap.size w2 w2.drew := ⟨rfl, rfl, rfl, Nat.le_refl _, fun _ _ => rfl⟩
        have hwh : isIn ms R.who = isIn (N.clo (P.m.2.2 ++ P.i.2.2) ts) R.who := isIn_iff hmem R.who
        have C47 : Hid (Calls Try.prog 47 #[.agg #[.string ts, .float .f64 t, .map (some nb)], .string R.who] w2.drew fun e w' => e = .returned (.bool (isIn ms R.who)) ∧ Below w2.drew.heap.size w2.drew w') := is_any _ _ _ _ _ _ (hN2.out.turn ((Turn.refl (fun _ => False) w2).drew) id) (okk_of hz.2.2.1)
        have C16 := hide' (fun v => M.passes_any R.d (.string R.who) (.string R.what) (.slice R.ro R.rl.length R.rc) R.cd R.lv t v)
        have hwH := hide' hwh
        have htH := hide' ht
        clear hN hmem hwh ht
        cases hwho : isIn ms R.who with
        | false =>
          rw [hwho] at C47
          have hm : Hid (mtc P R ts to ta = false) := by show _ = _; unfold mtc; rw [hact, hspb, htH.out]; simp only []; rw [← hwH.out, hwho]; simp
          refine wp_region_held_drew (S := fun w' => w'.cell? ⟨q0, 0, none⟩ = some (.slice P.ao P.al.length P.ac) ∧ w'.cell? ⟨q0, 1, none⟩ = some (.slice P.so P.sl.length P.sc) ∧ w'.cell? ⟨q0, 2, none⟩ = some P.ro ∧ w'.cell? ⟨q0, 3, none⟩ = some (.slice P.oo P.ol.length P.oc) ∧ w'.cell? ⟨q0, 4, none⟩ = some P.gr ∧ w'.cell? ⟨q0, 5, none⟩ = some (.slice P.m.1 P.m.2.2.length P.m.2.1) ∧ w'.cell? ⟨q0, 6, none⟩ = some (.slice P.i.1 P.i.2.2.length P.i.2.1) ∧ w'.cell? ⟨q0, 7, none⟩ = some (.slice P.p.1 P.p.2.2.length P.p.2.1) ∧ w'.cell? ⟨q0, 8, none⟩ = some (.slice P.w.1 P.w.2.2.length P.w.2.1) ∧ w'.cell? ⟨q0, 9, none⟩ = some P.ru ∧ w'.cell? ⟨q0, 10, none⟩ = some P.ex ∧ w'.cell? ⟨q1, 0, none⟩ = some R.d ∧ w'.cell? ⟨q1, 1, none⟩ = some (.string R.who) ∧ w'.cell? ⟨q1, 2, none⟩ = some (.string R.what) ∧ w'.cell? ⟨q1, 3, none⟩ = some (.slice R.ro R.rl.length R.rc) ∧ w'.cell? ⟨q1, 4, none⟩ = some (.int .i8 R.cd) ∧ w'.cell? ⟨q1, 5, none⟩ = some (.float .f64 R.lv) ∧ w'.cell? ⟨q2, 0, none⟩ = some (.string ts) ∧ w'.cell? ⟨q2, 1, none⟩ = some (.string to) ∧ w'.cell? ⟨q2, 2, none⟩ = some (.string ta) ∧ w'.cell? ⟨pb, 0, none⟩ = some (.string ts) ∧ w'.cell? ⟨pb, 1, none⟩ = some (.float .f64 t) ∧ w'.cell? ⟨pb, 2, none⟩ = some (.map (some nb))) (by kernel_rfl) (KT.out _ hd) (fun hHeld => ?_)
          refine wpAnyH_take (i := 0) (oi := { dst := some 30, op := Op.move (Operand.tmp 7), type := 4, pos := "mean.go:30", after := #[], guard := none }) (v := .bool true) rfl (by kernel_rfl) (by kernel_rfl) (by kernel_rfl) (fun _ _ _ h => h) (Or.inl ⟨by kernel_rfl, fun w hSw => ?_⟩) (by assumption) ?_
          · (try dsimp only at hSw); go_simp
          (try simp only [Act.put, List.setIfInBounds_toArray, List.set_cons_zero, List.set_cons_succ])
          refine wpAnyH_take (i := 1) (oi := { dst := some 31, op := Op.move (Operand.tmp 30), type := 4, pos := "mean.go:30", after := #[{ on := 0, ground := Ground.data }], guard := none }) (v := .bool true) rfl (by kernel_rfl) (by kernel_rfl) (by kernel_rfl) (fun _ _ _ h => h) (Or.inl ⟨by kernel_rfl, fun w hSw => ?_⟩) (by assumption) ?_
          · (try dsimp only at hSw); go_simp
          (try simp only [Act.put, List.setIfInBounds_toArray, List.set_cons_zero, List.set_cons_succ])
          refine wpAnyH_take (i := 2) (oi := { dst := some 32, op := Op.load 66 (Operand.tmp 8), type := 66, pos := "mean.go:30", after := #[{ on := 1, ground := Ground.guard }], guard := some (1, true) }) (v := .agg #[.string ts, .float .f64 t, .map (some nb)]) rfl (by kernel_rfl) (by kernel_rfl) (by kernel_rfl) (fun _ _ _ h => h) (Or.inl ⟨by kernel_rfl, fun w hSw => ?_⟩) (by assumption) ?_
          · (try dsimp only at hSw); go_simp
          (try simp only [Act.put, List.setIfInBounds_toArray, List.set_cons_zero, List.set_cons_succ])
          refine wpAnyH_take (i := 3) (oi := { dst := some 33, op := Op.fieldAddr 27 (Operand.tmp 4) 1, type := 0, pos := "mean.go:30", after := #[{ on := 1, ground := Ground.guard }], guard := some (1, true) }) (v := .pointer (some ⟨q1, 1, none⟩)) rfl (by kernel_rfl) (by kernel_rfl) (by kernel_rfl) (fun _ _ _ h => h) (Or.inl ⟨by kernel_rfl, fun w hSw => ?_⟩) (by assumption) ?_
          · (try dsimp only at hSw); go_simp
          (try simp only [Act.put, List.setIfInBounds_toArray, List.set_cons_zero, List.set_cons_succ])
          refine wpAnyH_take (i := 4) (oi := { dst := some 34, op := Op.load 9 (Operand.tmp 33), type := 9, pos := "mean.go:30", after := #[{ on := 3, ground := Ground.data }, { on := 1, ground := Ground.guard }], guard := some (1, true) }) (v := .string R.who) rfl (by kernel_rfl) (by kernel_rfl) (by kernel_rfl) (fun _ _ _ h => h) (Or.inl ⟨by kernel_rfl, fun w hSw => ?_⟩) (by assumption) ?_
          · (try dsimp only at hSw); go_simp
          (try simp only [Act.put, List.setIfInBounds_toArray, List.set_cons_zero, List.set_cons_succ])
          refine wpAnyH_ready (rs := [5]) (by kernel_rfl) (by simp) ?_
          refine AllReadyH.cons (o := { dst := some 35, op := Op.call { callee := Callee.value (Operand.func 47), args := #[Operand.tmp 32, Operand.tmp 34], argTypes := #[66, 9] }, type := 4, pos := "mean.go:30", after := #[{ on := 2, ground := Ground.data }, { on := 4, ground := Ground.data }, { on := 1, ground := Ground.chain }, { on := 1, ground := Ground.guard }], guard := some (1, true) }) rfl (fun K hK => ?_) AllReadyH.nil
          go_simp
          refine C47.out.mono ?_
          rintro e w3 ⟨rfl, b3⟩
          have b23 : Below w2.heap.size w2 w3 := ⟨b3.os, b3.tape, b3.output, b3.size, b3.block⟩
          clear b3
          (try dsimp only)
          refine hK.out _ _ (KT.out _ b23) (fun hHeld => ?_)
          clear hK K
          (try simp only [Act.put, List.setIfInBounds_toArray, List.set_cons_zero, List.set_cons_succ])
          refine wpAnyH_take (i := 6) (oi := { dst := some 36, op := Op.pick (Operand.tmp 31) (Operand.tmp 35) (Operand.const (Value.bool false)), type := 4, pos := "mean.go:30", after := #[{ on := 1, ground := Ground.data }, { on := 5, ground := Ground.data }], guard := none }) (v := .bool false) rfl (by kernel_rfl) (by kernel_rfl) (by kernel_rfl) (fun _ _ _ h => h) (Or.inl ⟨by kernel_rfl, fun w hSw => ?_⟩) (by assumption) ?_
          · (try dsimp only at hSw); go_simp
          (try simp only [Act.put, List.setIfInBounds_toArray, List.set_cons_zero, List.set_cons_succ])
          refine wpAnyH_take (i := 7) (oi := { dst := some 37, op := Op.move (Operand.tmp 36), type := 4, pos := "mean.go:30", after := #[{ on := 6, ground := Ground.data }, { on := 5, ground := Ground.chain }], guard := none }) (v := .bool false) rfl (by kernel_rfl) (by kernel_rfl) (by kernel_rfl) (fun _ _ _ h => h) (Or.inl ⟨by kernel_rfl, fun w hSw => ?_⟩) (by assumption) ?_
          · (try dsimp only at hSw); go_simp
          (try simp only [Act.put, List.setIfInBounds_toArray, List.set_cons_zero, List.set_cons_succ])
          refine wpAnyH_take (i := 8) (oi := { dst := some 38, op := Op.load 27 (Operand.tmp 4), type := 27, pos := "mean.go:30", after := #[{ on := 7, ground := Ground.guard }], guard := some (7, true) }) (v := undef) rfl (by kernel_rfl) (by kernel_rfl) (by kernel_rfl) (fun _ _ _ h => h) (Or.inr ⟨by kernel_rfl, rfl⟩) (by assumption) ?_
          (try simp only [Act.put, List.setIfInBounds_toArray, List.set_cons_zero, List.set_cons_succ])
          refine wpAnyH_take (i := 9) (oi := { dst := some 39, op := Op.fieldAddr 66 (Operand.tmp 8) 1, type := 0, pos := "mean.go:30", after := #[{ on := 7, ground := Ground.guard }], guard := some (7, true) }) (v := undef) rfl (by kernel_rfl) (by kernel_rfl) (by kernel_rfl) (fun _ _ _ h => h) (Or.inr ⟨by kernel_rfl, rfl⟩) (by assumption) ?_
          (try simp only [Act.put, List.setIfInBounds_toArray, List.set_cons_zero, List.set_cons_succ])
          refine wpAnyH_take (i := 10) (oi := { dst := some 40, op := Op.load 24 (Operand.tmp 39), type := 24, pos := "mean.go:30", after := #[{ on := 9, ground := Ground.data }, { on := 7, ground := Ground.guard }], guard := some (7, true) }) (v := undef) rfl (by kernel_rfl) (by kernel_rfl) (by kernel_rfl) (fun _ _ _ h => h) (Or.inr ⟨by kernel_rfl, rfl⟩) (by assumption) ?_
          (try simp only [Act.put, List.setIfInBounds_toArray, List.set_cons_zero, List.set_cons_succ])
          refine wpAnyH_take (i := 11) (oi := { dst := some 41, op := Op.call { callee := Callee.value (Operand.func 16), args := #[Operand.tmp 38, Operand.tmp 40], argTypes := #[27, 24] }, type := 4, pos := "mean.go:30", after := #[{ on := 8, ground := Ground.data }, { on := 10, ground := Ground.data }, { on := 7, ground := Ground.chain }, { on := 7, ground := Ground.guard }], guard := some (7, true) }) (v := undef) rfl (by kernel_rfl) (by kernel_rfl) (by kernel_rfl) (fun _ _ _ h => h) (Or.inr ⟨by kernel_rfl, rfl⟩) (by assumption) ?_
          (try simp only [Act.put, List.setIfInBounds_toArray, List.set_cons_zero, List.set_cons_succ])
          refine wpAnyH_take (i := 12) (oi := { dst := some 42, op := Op.pick (Operand.tmp 37) (Operand.tmp 41) (Operand.const (Value.bool false)), type := 4, pos := "mean.go:30", after := #[{ on := 7, ground := Ground.data }, { on := 11, ground := Ground.data }], guard := none }) (v := .bool false) rfl (by kernel_rfl) (by kernel_rfl) (by kernel_rfl) (fun _ _ _ h => h) (Or.inl ⟨by kernel_rfl, fun w hSw => ?_⟩) (by assumption) ?_
          · (try dsimp only at hSw); go_simp
          (try simp only [Act.put, List.setIfInBounds_toArray, List.set_cons_zero, List.set_cons_succ])
          refine wpAnyH_take (i := 13) (oi := { dst := some 43, op := Op.move (Operand.tmp 42), type := 4, pos := "mean.go:30", after := #[{ on := 12, ground := Ground.data }, { on := 11, ground := Ground.chain }], guard := none }) (v := .bool false) rfl (by kernel_rfl) (by kernel_rfl) (by kernel_rfl) (fun _ _ _ h => h) (Or.inl ⟨by kernel_rfl, fun w hSw => ?_⟩) (by assumption) ?_
          · (try dsimp only at hSw); go_simp
          (try simp only [Act.put, List.setIfInBounds_toArray, List.set_cons_zero, List.set_cons_succ])
          refine wpAnyH_take (i := 14) (oi := { dst := some 44, op := Op.load 34 (Operand.tmp 3), type := 34, pos := "mean.go:30", after := #[{ on := 13, ground := Ground.guard }], guard := some (13, true) }) (v := undef) rfl (by kernel_rfl) (by kernel_rfl) (by kernel_rfl) (fun _ _ _ h => h) (Or.inr ⟨by kernel_rfl, rfl⟩) (by assumption) ?_
          (try simp only [Act.put, List.setIfInBounds_toArray, List.set_cons_zero, List.set_cons_succ])
          refine wpAnyH_take (i := 15) (oi := { dst := some 45, op := Op.fieldAddr 36 (Operand.tmp 5) 1, type := 0, pos := "mean.go:30", after := #[{ on := 13, ground := Ground.guard }], guard := some (13, true) }) (v := undef) rfl (by kernel_rfl) (by kernel_rfl) (by kernel_rfl) (fun _ _ _ h => h) (Or.inr ⟨by kernel_rfl, rfl⟩) (by assumption) ?_
          (try simp only [Act.put, List.setIfInBounds_toArray, List.set_cons_zero, List.set_cons_succ])
          refine wpAnyH_take (i := 16) (oi := { dst := some 46, op := Op.load 9 (Operand.tmp 45), type := 9, pos := "mean.go:30", after := #[{ on := 15, ground := Ground.data }, { on := 13, ground := Ground.guard }], guard := some (13, true) }) (v := undef) rfl (by kernel_rfl) (by kernel_rfl) (by kernel_rfl) (fun _ _ _ h => h) (Or.inr ⟨by kernel_rfl, rfl⟩) (by assumption) ?_
          (try simp only [Act.put, List.setIfInBounds_toArray, List.set_cons_zero, List.set_cons_succ])
          refine wpAnyH_take (i := 17) (oi := { dst := some 47, op := Op.call { callee := Callee.value (Operand.func 48), args := #[Operand.tmp 44, Operand.tmp 46], argTypes := #[34, 9] }, type := 66, pos := "mean.go:30", after := #[{ on := 14, ground := Ground.data }, { on := 16, ground := Ground.data }, { on := 13, ground := Ground.chain }, { on := 13, ground := Ground.guard }], guard := some (13, true) }) (v := undef) rfl (by kernel_rfl) (by kernel_rfl) (by kernel_rfl) (fun _ _ _ h => h) (Or.inr ⟨by kernel_rfl, rfl⟩) (by assumption) ?_
          (try simp only [Act.put, List.setIfInBounds_toArray, List.set_cons_zero, List.set_cons_succ])
          refine wpAnyH_take (i := 18) (oi := { dst := some 48, op := Op.fieldAddr 27 (Operand.tmp 4) 2, type := 0, pos := "mean.go:30", after := #[{ on := 13, ground := Ground.guard }], guard := some (13, true) }) (v := undef) rfl (by kernel_rfl) (by kernel_rfl) (by kernel_rfl) (fun _ _ _ h => h) (Or.inr ⟨by kernel_rfl, rfl⟩) (by assumption) ?_
          (try simp only [Act.put, List.setIfInBounds_toArray, List.set_cons_zero, List.set_cons_succ])
          refine wpAnyH_take (i := 19) (oi := { dst := some 49, op := Op.load 9 (Operand.tmp 48), type := 9, pos := "mean.go:30", after := #[{ on := 18, ground := Ground.data }, { on := 13, ground := Ground.guard }], guard := some (13, true) }) (v := undef) rfl (by kernel_rfl) (by kernel_rfl) (by kernel_rfl) (fun _ _ _ h => h) (Or.inr ⟨by kernel_rfl, rfl⟩) (by assumption) ?_
          (try simp only [Act.put, List.setIfInBounds_toArray, List.set_cons_zero, List.set_cons_succ])
          refine wpAnyH_take (i := 20) (oi := { dst := some 50, op := Op.call { callee := Callee.value (Operand.func 47), args := #[Operand.tmp 47, Operand.tmp 49], argTypes := #[66, 9] }, type := 4, pos := "mean.go:30", after := #[{ on := 17, ground := Ground.data }, { on := 19, ground := Ground.data }, { on := 17, ground := Ground.chain }, { on := 13, ground := Ground.guard }], guard := some (13, true) }) (v := undef) rfl (by kernel_rfl) (by kernel_rfl) (by kernel_rfl) (fun _ _ _ h => h) (Or.inr ⟨by kernel_rfl, rfl⟩) (by assumption) ?_
          (try simp only [Act.put, List.setIfInBounds_toArray, List.set_cons_zero, List.set_cons_succ])
          refine wpAnyH_take (i := 21) (oi := { dst := some 51, op := Op.pick (Operand.tmp 43) (Operand.tmp 50) (Operand.const (Value.bool false)), type := 4, pos := "mean.go:30", after := #[{ on := 13, ground := Ground.data }, { on := 20, ground := Ground.data }], guard := none }) (v := .bool false) rfl (by kernel_rfl) (by kernel_rfl) (by kernel_rfl) (fun _ _ _ h => h) (Or.inl ⟨by kernel_rfl, fun w hSw => ?_⟩) (by assumption) ?_
          · (try dsimp only at hSw); go_simp
          (try simp only [Act.put, List.setIfInBounds_toArray, List.set_cons_zero, List.set_cons_succ])
          refine wpAnyH_take (i := 22) (oi := { dst := some 6, op := Op.assign (Operand.tmp 51), type := 4, pos := "mean.go:30", after := #[{ on := 21, ground := Ground.data }, { on := 20, ground := Ground.chain }, { on := 0, ground := Ground.phase }, { on := 1, ground := Ground.phase }, { on := 2, ground := Ground.phase }, { on := 3, ground := Ground.phase }, { on := 4, ground := Ground.phase }, { on := 5, ground := Ground.phase }, { on := 6, ground := Ground.phase }, { on := 7, ground := Ground.phase }, { on := 8, ground := Ground.phase }, { on := 9, ground := Ground.phase }, { on := 10, ground := Ground.phase }, { on := 11, ground := Ground.phase }, { on := 12, ground := Ground.phase }, { on := 13, ground := Ground.phase }, { on := 14, ground := Ground.phase }, { on := 15, ground := Ground.phase }, { on := 16, ground := Ground.phase }, { on := 17, ground := Ground.phase }, { on := 18, ground := Ground.phase }, { on := 19, ground := Ground.phase }, { on := 20, ground := Ground.phase }, { on := 21, ground := Ground.phase }], guard := none }) (v := .bool false) rfl (by kernel_rfl) (by kernel_rfl) (by kernel_rfl) (fun _ _ _ h => h) (Or.inl ⟨by kernel_rfl, fun w hSw => ?_⟩) (by assumption) ?_
          · (try dsimp only at hSw); go_simp
          (try simp only [Act.put, List.setIfInBounds_toArray, List.set_cons_zero, List.set_cons_succ])
          refine wpAnyH_done (by kernel_rfl) ?_ _
          go_wp2_with fail
          go_ret
          exact ⟨by rw [hm.out]; rfl, hw2.out.trans (b23.mono hw2.out.size)⟩
        | true =>
          rw [hwho] at C47
          cases hpass : M.pass R.cd R.lv t with
          | false =>
            rw [hpass] at C16
            have hm : Hid (mtc P R ts to ta = false) := by show _ = _; unfold mtc; rw [hact, hspb, htH.out]; simp only []; rw [hpass]; simp
            refine wp_region_held_drew (S := fun w' => w'.cell? ⟨q0, 0, none⟩ = some (.slice P.ao P.al.length P.ac) ∧ w'.cell? ⟨q0, 1, none⟩ = some (.slice P.so P.sl.length P.sc) ∧ w'.cell? ⟨q0, 2, none⟩ = some P.ro ∧ w'.cell? ⟨q0, 3, none⟩ = some (.slice P.oo P.ol.length P.oc) ∧ w'.cell? ⟨q0, 4, none⟩ = some P.gr ∧ w'.cell? ⟨q0, 5, none⟩ = some (.slice P.m.1 P.m.2.2.length P.m.2.1) ∧ w'.cell? ⟨q0, 6, none⟩ = some (.slice P.i.1 P.i.2.2.length P.i.2.1) ∧ w'.cell? ⟨q0, 7, none⟩ = some (.slice P.p.1 P.p.2.2.length P.p.2.1) ∧ w'.cell? ⟨q0, 8, none⟩ = some (.slice P.w.1 P.w.2.2.length P.w.2.1) ∧ w'.cell? ⟨q0, 9, none⟩ = some P.ru ∧ w'.cell? ⟨q0, 10, none⟩ = some P.ex ∧ w'.cell? ⟨q1, 0, none⟩ = some R.d ∧ w'.cell? ⟨q1, 1, none⟩ = some (.string R.who) ∧ w'.cell? ⟨q1, 2, none⟩ = some (.string R.what) ∧ w'.cell? ⟨q1, 3, none⟩ = some (.slice R.ro R.rl.length R.rc) ∧ w'.cell? ⟨q1, 4, none⟩ = some (.int .i8 R.cd) ∧ w'.cell? ⟨q1, 5, none⟩ = some (.float .f64 R.lv) ∧ w'.cell? ⟨q2, 0, none⟩ = some (.string ts) ∧ w'.cell? ⟨q2, 1, none⟩ = some (.string to) ∧ w'.cell? ⟨q2, 2, none⟩ = some (.string ta) ∧ w'.cell? ⟨pb, 0, none⟩ = some (.string ts) ∧ w'.cell? ⟨pb, 1, none⟩ = some (.float .f64 t) ∧ w'.cell? ⟨pb, 2, none⟩ = some (.map (some nb))) (by kernel_rfl) (KT.out _ hd) (fun hHeld => ?_)
            refine wpAnyH_take (i := 0) (oi := { dst := some 30, op := Op.move (Operand.tmp 7), type := 4, pos := "mean.go:30", after := #[], guard := none }) (v := .bool true) rfl (by kernel_rfl) (by kernel_rfl) (by kernel_rfl) (fun _ _ _ h => h) (Or.inl ⟨by kernel_rfl, fun w hSw => ?_⟩) (by assumption) ?_
            · (try dsimp only at hSw); go_simp
            (try simp only [Act.put, List.setIfInBounds_toArray, List.set_cons_zero, List.set_cons_succ])
            refine wpAnyH_take (i := 1) (oi := { dst := some 31, op := Op.move (Operand.tmp 30), type := 4, pos := "mean.go:30", after := #[{ on := 0, ground := Ground.data }], guard := none }) (v := .bool true) rfl (by kernel_rfl) (by kernel_rfl) (by kernel_rfl) (fun _ _ _ h => h) (Or.inl ⟨by kernel_rfl, fun w hSw => ?_⟩) (by assumption) ?_
            · (try dsimp only at hSw); go_simp
            (try simp only [Act.put, List.setIfInBounds_toArray, List.set_cons_zero, List.set_cons_succ])
            refine wpAnyH_take (i := 2) (oi := { dst := some 32, op := Op.load 66 (Operand.tmp 8), type := 66, pos := "mean.go:30", after := #[{ on := 1, ground := Ground.guard }], guard := some (1, true) }) (v := .agg #[.string ts, .float .f64 t, .map (some nb)]) rfl (by kernel_rfl) (by kernel_rfl) (by kernel_rfl) (fun _ _ _ h => h) (Or.inl ⟨by kernel_rfl, fun w hSw => ?_⟩) (by assumption) ?_
            · (try dsimp only at hSw); go_simp
            (try simp only [Act.put, List.setIfInBounds_toArray, List.set_cons_zero, List.set_cons_succ])
            refine wpAnyH_take (i := 3) (oi := { dst := some 33, op := Op.fieldAddr 27 (Operand.tmp 4) 1, type := 0, pos := "mean.go:30", after := #[{ on := 1, ground := Ground.guard }], guard := some (1, true) }) (v := .pointer (some ⟨q1, 1, none⟩)) rfl (by kernel_rfl) (by kernel_rfl) (by kernel_rfl) (fun _ _ _ h => h) (Or.inl ⟨by kernel_rfl, fun w hSw => ?_⟩) (by assumption) ?_
            · (try dsimp only at hSw); go_simp
            (try simp only [Act.put, List.setIfInBounds_toArray, List.set_cons_zero, List.set_cons_succ])
            refine wpAnyH_take (i := 4) (oi := { dst := some 34, op := Op.load 9 (Operand.tmp 33), type := 9, pos := "mean.go:30", after := #[{ on := 3, ground := Ground.data }, { on := 1, ground := Ground.guard }], guard := some (1, true) }) (v := .string R.who) rfl (by kernel_rfl) (by kernel_rfl) (by kernel_rfl) (fun _ _ _ h => h) (Or.inl ⟨by kernel_rfl, fun w hSw => ?_⟩) (by assumption) ?_
            · (try dsimp only at hSw); go_simp
            (try simp only [Act.put, List.setIfInBounds_toArray, List.set_cons_zero, List.set_cons_succ])
            refine wpAnyH_ready (rs := [5]) (by kernel_rfl) (by simp) ?_
            refine AllReadyH.cons (o := { dst := some 35, op := Op.call { callee := Callee.value (Operand.func 47), args := #[Operand.tmp 32, Operand.tmp 34], argTypes := #[66, 9] }, type := 4, pos := "mean.go:30", after := #[{ on := 2, ground := Ground.data }, { on := 4, ground := Ground.data }, { on := 1, ground := Ground.chain }, { on := 1, ground := Ground.guard }], guard := some (1, true) }) rfl (fun K hK => ?_) AllReadyH.nil
            go_simp
            refine C47.out.mono ?_
            rintro e w3 ⟨rfl, b3⟩
            have b23 : Below w2.heap.size w2 w3 := ⟨b3.os, b3.tape, b3.output, b3.size, b3.block⟩
            clear b3
            (try dsimp only)
            refine hK.out _ _ (KT.out _ b23) (fun hHeld => ?_)
            clear hK K
            (try simp only [Act.put, List.setIfInBounds_toArray, List.set_cons_zero, List.set_cons_succ])
            refine wpAnyH_take (i := 6) (oi := { dst := some 36, op := Op.pick (Operand.tmp 31) (Operand.tmp 35) (Operand.const (Value.bool false)), type := 4, pos := "mean.go:30", after := #[{ on := 1, ground := Ground.data }, { on := 5, ground := Ground.data }], guard := none }) (v := .bool true) rfl (by kernel_rfl) (by kernel_rfl) (by kernel_rfl) (fun _ _ _ h => h) (Or.inl ⟨by kernel_rfl, fun w hSw => ?_⟩) (by assumption) ?_
            · (try dsimp only at hSw); go_simp
            (try simp only [Act.put, List.setIfInBounds_toArray, List.set_cons_zero, List.set_cons_succ])
            refine wpAnyH_take (i := 7) (oi := { dst := some 37, op := Op.move (Operand.tmp 36), type := 4, pos := "mean.go:30", after := #[{ on := 6, ground := Ground.data }, { on := 5, ground := Ground.chain }], guard := none }) (v := .bool true) rfl (by kernel_rfl) (by kernel_rfl) (by kernel_rfl) (fun _ _ _ h => h) (Or.inl ⟨by kernel_rfl, fun w hSw => ?_⟩) (by assumption) ?_
            · (try dsimp only at hSw); go_simp
            (try simp only [Act.put, List.setIfInBounds_toArray, List.set_cons_zero, List.set_cons_succ])
            refine wpAnyH_take (i := 8) (oi := { dst := some 38, op := Op.load 27 (Operand.tmp 4), type := 27, pos := "mean.go:30", after := #[{ on := 7, ground := Ground.guard }], guard := some (7, true) }) (v := .agg #[R.d, .string R.who, .string R.what, .slice R.ro R.rl.length R.rc, .int .i8 R.cd, .float .f64 R.lv]) rfl (by kernel_rfl) (by kernel_rfl) (by kernel_rfl) (fun _ _ _ h => h) (Or.inl ⟨by kernel_rfl, fun w hSw => ?_⟩) (by assumption) ?_
            · (try dsimp only at hSw); go_simp
            (try simp only [Act.put, List.setIfInBounds_toArray, List.set_cons_zero, List.set_cons_succ])
            refine wpAnyH_take (i := 9) (oi := { dst := some 39, op := Op.fieldAddr 66 (Operand.tmp 8) 1, type := 0, pos := "mean.go:30", after := #[{ on := 7, ground := Ground.guard }], guard := some (7, true) }) (v := .pointer (some ⟨pb, 1, none⟩)) rfl (by kernel_rfl) (by kernel_rfl) (by kernel_rfl) (fun _ _ _ h => h) (Or.inl ⟨by kernel_rfl, fun w hSw => ?_⟩) (by assumption) ?_
            · (try dsimp only at hSw); go_simp
            (try simp only [Act.put, List.setIfInBounds_toArray, List.set_cons_zero, List.set_cons_succ])
            refine wpAnyH_take (i := 10) (oi := { dst := some 40, op := Op.load 24 (Operand.tmp 39), type := 24, pos := "mean.go:30", after := #[{ on := 9, ground := Ground.data }, { on := 7, ground := Ground.guard }], guard := some (7, true) }) (v := .float .f64 t) rfl (by kernel_rfl) (by kernel_rfl) (by kernel_rfl) (fun _ _ _ h => h) (Or.inl ⟨by kernel_rfl, fun w hSw => ?_⟩) (by assumption) ?_
            · (try dsimp only at hSw); go_simp
            (try simp only [Act.put, List.setIfInBounds_toArray, List.set_cons_zero, List.set_cons_succ])
            refine wpAnyH_ready (rs := [11]) (by kernel_rfl) (by simp) ?_
            refine AllReadyH.cons (o := { dst := some 41, op := Op.call { callee := Callee.value (Operand.func 16), args := #[Operand.tmp 38, Operand.tmp 40], argTypes := #[27, 24] }, type := 4, pos := "mean.go:30", after := #[{ on := 8, ground := Ground.data }, { on := 10, ground := Ground.data }, { on := 7, ground := Ground.chain }, { on := 7, ground := Ground.guard }], guard := some (7, true) }) rfl (fun K hK => ?_) AllReadyH.nil
            go_simp
            refine (C16.out w3).mono ?_
            rintro e w4 ⟨rfl, b4⟩
            have b24 : Below w2.heap.size w2 w4 := b23.trans (b4.mono b23.size)
            clear b4
            (try dsimp only)
            refine hK.out _ _ (KT.out _ b24) (fun hHeld => ?_)
            clear hK K
            (try simp only [Act.put, List.setIfInBounds_toArray, List.set_cons_zero, List.set_cons_succ])
            refine wpAnyH_take (i := 12) (oi := { dst := some 42, op := Op.pick (Operand.tmp 37) (Operand.tmp 41) (Operand.const (Value.bool false)), type := 4, pos := "mean.go:30", after := #[{ on := 7, ground := Ground.data }, { on := 11, ground := Ground.data }], guard := none }) (v := .bool false) rfl (by kernel_rfl) (by kernel_rfl) (by kernel_rfl) (fun _ _ _ h => h) (Or.inl ⟨by kernel_rfl, fun w hSw => ?_⟩) (by assumption) ?_
            · (try dsimp only at hSw); go_simp
            (try simp only [Act.put, List.setIfInBounds_toArray, List.set_cons_zero, List.set_cons_succ])
            refine wpAnyH_take (i := 13) (oi := { dst := some 43, op := Op.move (Operand.tmp 42), type := 4, pos := "mean.go:30", after := #[{ on := 12, ground := Ground.data }, { on := 11, ground := Ground.chain }], guard := none }) (v := .bool false) rfl (by kernel_rfl) (by kernel_rfl) (by kernel_rfl) (fun _ _ _ h => h) (Or.inl ⟨by kernel_rfl, fun w hSw => ?_⟩) (by assumption) ?_
            · (try dsimp only at hSw); go_simp
            (try simp only [Act.put, List.setIfInBounds_toArray, List.set_cons_zero, List.set_cons_succ])
            refine wpAnyH_take (i := 14) (oi := { dst := some 44, op := Op.load 34 (Operand.tmp 3), type := 34, pos := "mean.go:30", after := #[{ on := 13, ground := Ground.guard }], guard := some (13, true) }) (v := undef) rfl (by kernel_rfl) (by kernel_rfl) (by kernel_rfl) (fun _ _ _ h => h) (Or.inr ⟨by kernel_rfl, rfl⟩) (by assumption) ?_
            (try simp only [Act.put, List.setIfInBounds_toArray, List.set_cons_zero, List.set_cons_succ])
            refine wpAnyH_take (i := 15) (oi := { dst := some 45, op := Op.fieldAddr 36 (Operand.tmp 5) 1, type := 0, pos := "mean.go:30", after := #[{ on := 13, ground := Ground.guard }], guard := some (13, true) }) (v := undef) rfl (by kernel_rfl) (by kernel_rfl) (by kernel_rfl) (fun _ _ _ h => h) (Or.inr ⟨by kernel_rfl, rfl⟩) (by assumption) ?_
            (try simp only [Act.put, List.setIfInBounds_toArray, List.set_cons_zero, List.set_cons_succ])
            refine wpAnyH_take (i := 16) (oi := { dst := some 46, op := Op.load 9 (Operand.tmp 45), type := 9, pos := "mean.go:30", after := #[{ on := 15, ground := Ground.data }, { on := 13, ground := Ground.guard }], guard := some (13, true) }) (v := undef) rfl (by kernel_rfl) (by kernel_rfl) (by kernel_rfl) (fun _ _ _ h => h) (Or.inr ⟨by kernel_rfl, rfl⟩) (by assumption) ?_
            (try simp only [Act.put, List.setIfInBounds_toArray, List.set_cons_zero, List.set_cons_succ])
            refine wpAnyH_take (i := 17) (oi := { dst := some 47, op := Op.call { callee := Callee.value (Operand.func 48), args := #[Operand.tmp 44, Operand.tmp 46], argTypes := #[34, 9] }, type := 66, pos := "mean.go:30", after := #[{ on := 14, ground := Ground.data }, { on := 16, ground := Ground.data }, { on := 13, ground := Ground.chain }, { on := 13, ground := Ground.guard }], guard := some (13, true) }) (v := undef) rfl (by kernel_rfl) (by kernel_rfl) (by kernel_rfl) (fun _ _ _ h => h) (Or.inr ⟨by kernel_rfl, rfl⟩) (by assumption) ?_
            (try simp only [Act.put, List.setIfInBounds_toArray, List.set_cons_zero, List.set_cons_succ])
            refine wpAnyH_take (i := 18) (oi := { dst := some 48, op := Op.fieldAddr 27 (Operand.tmp 4) 2, type := 0, pos := "mean.go:30", after := #[{ on := 13, ground := Ground.guard }], guard := some (13, true) }) (v := undef) rfl (by kernel_rfl) (by kernel_rfl) (by kernel_rfl) (fun _ _ _ h => h) (Or.inr ⟨by kernel_rfl, rfl⟩) (by assumption) ?_
            (try simp only [Act.put, List.setIfInBounds_toArray, List.set_cons_zero, List.set_cons_succ])
            refine wpAnyH_take (i := 19) (oi := { dst := some 49, op := Op.load 9 (Operand.tmp 48), type := 9, pos := "mean.go:30", after := #[{ on := 18, ground := Ground.data }, { on := 13, ground := Ground.guard }], guard := some (13, true) }) (v := undef) rfl (by kernel_rfl) (by kernel_rfl) (by kernel_rfl) (fun _ _ _ h => h) (Or.inr ⟨by kernel_rfl, rfl⟩) (by assumption) ?_
            (try simp only [Act.put, List.setIfInBounds_toArray, List.set_cons_zero, List.set_cons_succ])
            refine wpAnyH_take (i := 20) (oi := { dst := some 50, op := Op.call { callee := Callee.value (Operand.func 47), args := #[Operand.tmp 47, Operand.tmp 49], argTypes := #[66, 9] }, type := 4, pos := "mean.go:30", after := #[{ on := 17, ground := Ground.data }, { on := 19, ground := Ground.data }, { on := 17, ground := Ground.chain }, { on := 13, ground := Ground.guard }], guard := some (13, true) }) (v := undef) rfl (by kernel_rfl) (by kernel_rfl) (by kernel_rfl) (fun _ _ _ h => h) (Or.inr ⟨by kernel_rfl, rfl⟩) (by assumption) ?_
            (try simp only [Act.put, List.setIfInBounds_toArray, List.set_cons_zero, List.set_cons_succ])
            refine wpAnyH_take (i := 21) (oi := { dst := some 51, op := Op.pick (Operand.tmp 43) (Operand.tmp 50) (Operand.const (Value.bool false)), type := 4, pos := "mean.go:30", after := #[{ on := 13, ground := Ground.data }, { on := 20, ground := Ground.data }], guard := none }) (v := .bool false) rfl (by kernel_rfl) (by kernel_rfl) (by kernel_rfl) (fun _ _ _ h => h) (Or.inl ⟨by kernel_rfl, fun w hSw => ?_⟩) (by assumption) ?_
            · (try dsimp only at hSw); go_simp
            (try simp only [Act.put, List.setIfInBounds_toArray, List.set_cons_zero, List.set_cons_succ])
            refine wpAnyH_take (i := 22) (oi := { dst := some 6, op := Op.assign (Operand.tmp 51), type := 4, pos := "mean.go:30", after := #[{ on := 21, ground := Ground.data }, { on := 20, ground := Ground.chain }, { on := 0, ground := Ground.phase }, { on := 1, ground := Ground.phase }, { on := 2, ground := Ground.phase }, { on := 3, ground := Ground.phase }, { on := 4, ground := Ground.phase }, { on := 5, ground := Ground.phase }, { on := 6, ground := Ground.phase }, { on := 7, ground := Ground.phase }, { on := 8, ground := Ground.phase }, { on := 9, ground := Ground.phase }, { on := 10, ground := Ground.phase }, { on := 11, ground := Ground.phase }, { on := 12, ground := Ground.phase }, { on := 13, ground := Ground.phase }, { on := 14, ground := Ground.phase }, { on := 15, ground := Ground.phase }, { on := 16, ground := Ground.phase }, { on := 17, ground := Ground.phase }, { on := 18, ground := Ground.phase }, { on := 19, ground := Ground.phase }, { on := 20, ground := Ground.phase }, { on := 21, ground := Ground.phase }], guard := none }) (v := .bool false) rfl (by kernel_rfl) (by kernel_rfl) (by kernel_rfl) (fun _ _ _ h => h) (Or.inl ⟨by kernel_rfl, fun w hSw => ?_⟩) (by assumption) ?_
            · (try dsimp only at hSw); go_simp
            (try simp only [Act.put, List.setIfInBounds_toArray, List.set_cons_zero, List.set_cons_succ])
            refine wpAnyH_done (by kernel_rfl) ?_ _
            go_wp2_with fail
            go_ret
            exact ⟨by rw [hm.out]; rfl, hw2.out.trans (b24.mono hw2.out.size)⟩
          | true =>
            rw [hpass] at C16
            have C48a := hide' (fun v (b : Below w2.heap.size w2 v) => objectOf_any P to v (hI2.out.below b) Hs.out hz.2.1)
            rw [hPv.out] at C48a
            cases hobj : isIn P.ol to with
            | false =>
              have C48 : Hid (∀ v, Below w2.heap.size w2 v → Calls Try.prog 48 #[.agg #[.slice P.ao P.al.length P.ac, .slice P.so P.sl.length P.sc, P.ro, .slice P.oo P.ol.length P.oc, P.gr, .slice P.m.1 P.m.2.2.length P.m.2.1, .slice P.i.1 P.i.2.2.length P.i.2.1, .slice P.p.1 P.p.2.2.length P.p.2.1, .slice P.w.1 P.w.2.2.length P.w.2.1, P.ru, P.ex], .string to] v fun e w' => e = .returned (.agg #[.string ⟨#[]⟩, .float .f64 0, .map none]) ∧ Below v.heap.size v w') := fun v b => (C48a.out v b).mono fun e w' q => by
                rcases q with ⟨q, _⟩ | ⟨_, q1, q2⟩
                · rw [hobj] at q; cases q
                · exact ⟨q1, q2⟩
              have hm : Hid (mtc P R ts to ta = false) := by show _ = _; unfold mtc; rw [hobj]; simp
              refine wp_region_held_drew (S := fun w' => w'.cell? ⟨q0, 0, none⟩ = some (.slice P.ao P.al.length P.ac) ∧ w'.cell? ⟨q0, 1, none⟩ = some (.slice P.so P.sl.length P.sc) ∧ w'.cell? ⟨q0, 2, none⟩ = some P.ro ∧ w'.cell? ⟨q0, 3, none⟩ = some (.slice P.oo P.ol.length P.oc) ∧ w'.cell? ⟨q0, 4, none⟩ = some P.gr ∧ w'.cell? ⟨q0, 5, none⟩ = some (.slice P.m.1 P.m.2.2.length P.m.2.1) ∧ w'.cell? ⟨q0, 6, none⟩ = some (.slice P.i.1 P.i.2.2.length P.i.2.1) ∧ w'.cell? ⟨q0, 7, none⟩ = some (.slice P.p.1 P.p.2.2.length P.p.2.1) ∧ w'.cell? ⟨q0, 8, none⟩ = some (.slice P.w.1 P.w.2.2.length P.w.2.1) ∧ w'.cell? ⟨q0, 9, none⟩ = some P.ru ∧ w'.cell? ⟨q0, 10, none⟩ = some P.ex ∧ w'.cell? ⟨q1, 0, none⟩ = some R.d ∧ w'.cell? ⟨q1, 1, none⟩ = some (.string R.who) ∧ w'.cell? ⟨q1, 2, none⟩ = some (.string R.what) ∧ w'.cell? ⟨q1, 3, none⟩ = some (.slice R.ro R.rl.length R.rc) ∧ w'.cell? ⟨q1, 4, none⟩ = some (.int .i8 R.cd) ∧ w'.cell? ⟨q1, 5, none⟩ = some (.float .f64 R.lv) ∧ w'.cell? ⟨q2, 0, none⟩ = some (.string ts) ∧ w'.cell? ⟨q2, 1, none⟩ = some (.string to) ∧ w'.cell? ⟨q2, 2, none⟩ = some (.string ta) ∧ w'.cell? ⟨pb, 0, none⟩ = some (.string ts) ∧ w'.cell? ⟨pb, 1, none⟩ = some (.float .f64 t) ∧ w'.cell? ⟨pb, 2, none⟩ = some (.map (some nb))) (by kernel_rfl) (KT.out _ hd) (fun hHeld => ?_)
              refine wpAnyH_take (i := 0) (oi := { dst := some 30, op := Op.move (Operand.tmp 7), type := 4, pos := "mean.go:30", after := #[], guard := none }) (v := .bool true) rfl (by kernel_rfl) (by kernel_rfl) (by kernel_rfl) (fun _ _ _ h => h) (Or.inl ⟨by kernel_rfl, fun w hSw => ?_⟩) (by assumption) ?_
              · (try dsimp only at hSw); go_simp
              (try simp only [Act.put, List.setIfInBounds_toArray, List.set_cons_zero, List.set_cons_succ])
              refine wpAnyH_take (i := 1) (oi := { dst := some 31, op := Op.move (Operand.tmp 30), type := 4, pos := "mean.go:30", after := #[{ on := 0, ground := Ground.data }], guard := none }) (v := .bool true) rfl (by kernel_rfl) (by kernel_rfl) (by kernel_rfl) (fun _ _ _ h => h) (Or.inl ⟨by kernel_rfl, fun w hSw => ?_⟩) (by assumption) ?_
              · (try dsimp only at hSw); go_simp
              (try simp only [Act.put, List.setIfInBounds_toArray, List.set_cons_zero, List.set_cons_succ])
              refine wpAnyH_take (i := 2) (oi := { dst := some 32, op := Op.load 66 (Operand.tmp 8), type := 66, pos := "mean.go:30", after := #[{ on := 1, ground := Ground.guard }], guard := some (1, true) }) (v := .agg #[.string ts, .float .f64 t, .map (some nb)]) rfl (by kernel_rfl) (by kernel_rfl) (by kernel_rfl) (fun _ _ _ h => h) (Or.inl ⟨by kernel_rfl, fun w hSw => ?_⟩) (by assumption) ?_
              · (try dsimp only at hSw); go_simp
              (try simp only [Act.put, List.setIfInBounds_toArray, List.set_cons_zero, List.set_cons_succ])
              refine wpAnyH_take (i := 3) (oi := { dst := some 33, op := Op.fieldAddr 27 (Operand.tmp 4) 1, type := 0, pos := "mean.go:30", after := #[{ on := 1, ground := Ground.guard }], guard := some (1, true) }) (v := .pointer (some ⟨q1, 1, none⟩)) rfl (by kernel_rfl) (by kernel_rfl) (by kernel_rfl) (fun _ _ _ h => h) (Or.inl ⟨by kernel_rfl, fun w hSw => ?_⟩) (by assumption) ?_
              · (try dsimp only at hSw); go_simp
              (try simp only [Act.put, List.setIfInBounds_toArray, List.set_cons_zero, List.set_cons_succ])
              refine wpAnyH_take (i := 4) (oi := { dst := some 34, op := Op.load 9 (Operand.tmp 33), type := 9, pos := "mean.go:30", after := #[{ on := 3, ground := Ground.data }, { on := 1, ground := Ground.guard }], guard := some (1, true) }) (v := .string R.who) rfl (by kernel_rfl) (by kernel_rfl) (by kernel_rfl) (fun _ _ _ h => h) (Or.inl ⟨by kernel_rfl, fun w hSw => ?_⟩) (by assumption) ?_
              · (try dsimp only at hSw); go_simp
              (try simp only [Act.put, List.setIfInBounds_toArray, List.set_cons_zero, List.set_cons_succ])
              refine wpAnyH_ready (rs := [5]) (by kernel_rfl) (by simp) ?_
              refine AllReadyH.cons (o := { dst := some 35, op := Op.call { callee := Callee.value (Operand.func 47), args := #[Operand.tmp 32, Operand.tmp 34], argTypes := #[66, 9] }, type := 4, pos := "mean.go:30", after := #[{ on := 2, ground := Ground.data }, { on := 4, ground := Ground.data }, { on := 1, ground := Ground.chain }, { on := 1, ground := Ground.guard }], guard := some (1, true) }) rfl (fun K hK => ?_) AllReadyH.nil
              go_simp
              refine C47.out.mono ?_
              rintro e w3 ⟨rfl, b3⟩
              have b23 : Below w2.heap.size w2 w3 := ⟨b3.os, b3.tape, b3.output, b3.size, b3.block⟩
              clear b3
              (try dsimp only)
              refine hK.out _ _ (KT.out _ b23) (fun hHeld => ?_)
              clear hK K
              (try simp only [Act.put, List.setIfInBounds_toArray, List.set_cons_zero, List.set_cons_succ])
              refine wpAnyH_take (i := 6) (oi := { dst := some 36, op := Op.pick (Operand.tmp 31) (Operand.tmp 35) (Operand.const (Value.bool false)), type := 4, pos := "mean.go:30", after := #[{ on := 1, ground := Ground.data }, { on := 5, ground := Ground.data }], guard := none }) (v := .bool true) rfl (by kernel_rfl) (by kernel_rfl) (by kernel_rfl) (fun _ _ _ h => h) (Or.inl ⟨by kernel_rfl, fun w hSw => ?_⟩) (by assumption) ?_
              · (try dsimp only at hSw); go_simp
              (try simp only [Act.put, List.setIfInBounds_toArray, List.set_cons_zero, List.set_cons_succ])
              refine wpAnyH_take (i := 7) (oi := { dst := some 37, op := Op.move (Operand.tmp 36), type := 4, pos := "mean.go:30", after := #[{ on := 6, ground := Ground.data }, { on := 5, ground := Ground.chain }], guard := none }) (v := .bool true) rfl (by kernel_rfl) (by kernel_rfl) (by kernel_rfl) (fun _ _ _ h => h) (Or.inl ⟨by kernel_rfl, fun w hSw => ?_⟩) (by assumption) ?_
              · (try dsimp only at hSw); go_simp
              (try simp only [Act.put, List.setIfInBounds_toArray, List.set_cons_zero, List.set_cons_succ])
              refine wpAnyH_take (i := 8) (oi := { dst := some 38, op := Op.load 27 (Operand.tmp 4), type := 27, pos := "mean.go:30", after := #[{ on := 7, ground := Ground.guard }], guard := some (7, true) }) (v := .agg #[R.d, .string R.who, .string R.what, .slice R.ro R.rl.length R.rc, .int .i8 R.cd, .float .f64 R.lv]) rfl (by kernel_rfl) (by kernel_rfl) (by kernel_rfl) (fun _ _ _ h => h) (Or.inl ⟨by kernel_rfl, fun w hSw => ?_⟩) (by assumption) ?_
              · (try dsimp only at hSw); go_simp
              (try simp only [Act.put, List.setIfInBounds_toArray, List.set_cons_zero, List.set_cons_succ])
              refine wpAnyH_take (i := 9) (oi := { dst := some 39, op := Op.fieldAddr 66 (Operand.tmp 8) 1, type := 0, pos := "mean.go:30", after := #[{ on := 7, ground := Ground.guard }], guard := some (7, true) }) (v := .pointer (some ⟨pb, 1, none⟩)) rfl (by kernel_rfl) (by kernel_rfl) (by kernel_rfl) (fun _ _ _ h => h) (Or.inl ⟨by kernel_rfl, fun w hSw => ?_⟩) (by assumption) ?_
              · (try dsimp only at hSw); go_simp
              (try simp only [Act.put, List.setIfInBounds_toArray, List.set_cons_zero, List.set_cons_succ])
              refine wpAnyH_take (i := 10) (oi := { dst := some 40, op := Op.load 24 (Operand.tmp 39), type := 24, pos := "mean.go:30", after := #[{ on := 9, ground := Ground.data }, { on := 7, ground := Ground.guard }], guard := some (7, true) }) (v := .float .f64 t) rfl (by kernel_rfl) (by kernel_rfl) (by kernel_rfl) (fun _ _ _ h => h) (Or.inl ⟨by kernel_rfl, fun w hSw => ?_⟩) (by assumption) ?_
              · (try dsimp only at hSw); go_simp
              (try simp only [Act.put, List.setIfInBounds_toArray, List.set_cons_zero, List.set_cons_succ])
              refine wpAnyH_ready (rs := [11]) (by kernel_rfl) (by simp) ?_
              refine AllReadyH.cons (o := { dst := some 41, op := Op.call { callee := Callee.value (Operand.func 16), args := #[Operand.tmp 38, Operand.tmp 40], argTypes := #[27, 24] }, type := 4, pos := "mean.go:30", after := #[{ on := 8, ground := Ground.data }, { on := 10, ground := Ground.data }, { on := 7, ground := Ground.chain }, { on := 7, ground := Ground.guard }], guard := some (7, true) }) rfl (fun K hK => ?_) AllReadyH.nil
              go_simp
              refine (C16.out w3).mono ?_
              rintro e w4 ⟨rfl, b4⟩
              have b24 : Below w2.heap.size w2 w4 := b23.trans (b4.mono b23.size)
              clear b4
              (try dsimp only)
              refine hK.out _ _ (KT.out _ b24) (fun hHeld => ?_)
              clear hK K
              (try simp only [Act.put, List.setIfInBounds_toArray, List.set_cons_zero, List.set_cons_succ])
              refine wpAnyH_take (i := 12) (oi := { dst := some 42, op := Op.pick (Operand.tmp 37) (Operand.tmp 41) (Operand.const (Value.bool false)), type := 4, pos := "mean.go:30", after := #[{ on := 7, ground := Ground.data }, { on := 11, ground := Ground.data }], guard := none }) (v := .bool true) rfl (by kernel_rfl) (by kernel_rfl) (by kernel_rfl) (fun _ _ _ h => h) (Or.inl ⟨by kernel_rfl, fun w hSw => ?_⟩) (by assumption) ?_
              · (try dsimp only at hSw); go_simp
              (try simp only [Act.put, List.setIfInBounds_toArray, List.set_cons_zero, List.set_cons_succ])
              refine wpAnyH_take (i := 13) (oi := { dst := some 43, op := Op.move (Operand.tmp 42), type := 4, pos := "mean.go:30", after := #[{ on := 12, ground := Ground.data }, { on := 11, ground := Ground.chain }], guard := none }) (v := .bool true) rfl (by kernel_rfl) (by kernel_rfl) (by kernel_rfl) (fun _ _ _ h => h) (Or.inl ⟨by kernel_rfl, fun w hSw => ?_⟩) (by assumption) ?_
              · (try dsimp only at hSw); go_simp
              (try simp only [Act.put, List.setIfInBounds_toArray, List.set_cons_zero, List.set_cons_succ])
              refine wpAnyH_take (i := 14) (oi := { dst := some 44, op := Op.load 34 (Operand.tmp 3), type := 34, pos := "mean.go:30", after := #[{ on := 13, ground := Ground.guard }], guard := some (13, true) }) (v := .agg #[.slice P.ao P.al.length P.ac, .slice P.so P.sl.length P.sc, P.ro, .slice P.oo P.ol.length P.oc, P.gr, .slice P.m.1 P.m.2.2.length P.m.2.1, .slice P.i.1 P.i.2.2.length P.i.2.1, .slice P.p.1 P.p.2.2.length P.p.2.1, .slice P.w.1 P.w.2.2.length P.w.2.1, P.ru, P.ex]) rfl (by kernel_rfl) (by kernel_rfl) (by kernel_rfl) (fun _ _ _ h => h) (Or.inl ⟨by kernel_rfl, fun w hSw => ?_⟩) (by assumption) ?_
              · (try dsimp only at hSw); go_simp
              (try simp only [Act.put, List.setIfInBounds_toArray, List.set_cons_zero, List.set_cons_succ])
              refine wpAnyH_take (i := 15) (oi := { dst := some 45, op := Op.fieldAddr 36 (Operand.tmp 5) 1, type := 0, pos := "mean.go:30", after := #[{ on := 13, ground := Ground.guard }], guard := some (13, true) }) (v := .pointer (some ⟨q2, 1, none⟩)) rfl (by kernel_rfl) (by kernel_rfl) (by kernel_rfl) (fun _ _ _ h => h) (Or.inl ⟨by kernel_rfl, fun w hSw => ?_⟩) (by assumption) ?_
              · (try dsimp only at hSw); go_simp
              (try simp only [Act.put, List.setIfInBounds_toArray, List.set_cons_zero, List.set_cons_succ])
              refine wpAnyH_take (i := 16) (oi := { dst := some 46, op := Op.load 9 (Operand.tmp 45), type := 9, pos := "mean.go:30", after := #[{ on := 15, ground := Ground.data }, { on := 13, ground := Ground.guard }], guard := some (13, true) }) (v := .string to) rfl (by kernel_rfl) (by kernel_rfl) (by kernel_rfl) (fun _ _ _ h => h) (Or.inl ⟨by kernel_rfl, fun w hSw => ?_⟩) (by assumption) ?_
              · (try dsimp only at hSw); go_simp
              (try simp only [Act.put, List.setIfInBounds_toArray, List.set_cons_zero, List.set_cons_succ])
              refine wpAnyH_take (i := 18) (oi := { dst := some 48, op := Op.fieldAddr 27 (Operand.tmp 4) 2, type := 0, pos := "mean.go:30", after := #[{ on := 13, ground := Ground.guard }], guard := some (13, true) }) (v := .pointer (some ⟨q1, 2, none⟩)) rfl (by kernel_rfl) (by kernel_rfl) (by kernel_rfl) (fun _ _ _ h => h) (Or.inl ⟨by kernel_rfl, fun w hSw => ?_⟩) (by assumption) ?_
              · (try dsimp only at hSw); go_simp
              (try simp only [Act.put, List.setIfInBounds_toArray, List.set_cons_zero, List.set_cons_succ])
              refine wpAnyH_take (i := 19) (oi := { dst := some 49, op := Op.load 9 (Operand.tmp 48), type := 9, pos := "mean.go:30", after := #[{ on := 18, ground := Ground.data }, { on := 13, ground := Ground.guard }], guard := some (13, true) }) (v := .string R.what) rfl (by kernel_rfl) (by kernel_rfl) (by kernel_rfl) (fun _ _ _ h => h) (Or.inl ⟨by kernel_rfl, fun w hSw => ?_⟩) (by assumption) ?_
              · (try dsimp only at hSw); go_simp
              (try simp only [Act.put, List.setIfInBounds_toArray, List.set_cons_zero, List.set_cons_succ])
              refine wpAnyH_ready (rs := [17]) (by kernel_rfl) (by simp) ?_
              refine AllReadyH.cons (o := { dst := some 47, op := Op.call { callee := Callee.value (Operand.func 48), args := #[Operand.tmp 44, Operand.tmp 46], argTypes := #[34, 9] }, type := 66, pos := "mean.go:30", after := #[{ on := 14, ground := Ground.data }, { on := 16, ground := Ground.data }, { on := 13, ground := Ground.chain }, { on := 13, ground := Ground.guard }], guard := some (13, true) }) rfl (fun K hK => ?_) AllReadyH.nil
              go_simp
              refine (C48.out w4 b24).mono ?_
              rintro e w5 ⟨rfl, b5⟩
              have b25 : Below w2.heap.size w2 w5 := b24.trans (b5.mono b24.size)
              clear b5
              (try dsimp only)
              refine hK.out _ _ (KT.out _ b25) (fun hHeld => ?_)
              clear hK K
              (try simp only [Act.put, List.setIfInBounds_toArray, List.set_cons_zero, List.set_cons_succ])
              refine wpAnyH_ready (rs := [20]) (by kernel_rfl) (by simp) ?_
              refine AllReadyH.cons (o := { dst := some 50, op := Op.call { callee := Callee.value (Operand.func 47), args := #[Operand.tmp 47, Operand.tmp 49], argTypes := #[66, 9] }, type := 4, pos := "mean.go:30", after := #[{ on := 17, ground := Ground.data }, { on := 19, ground := Ground.data }, { on := 17, ground := Ground.chain }, { on := 13, ground := Ground.guard }], guard := some (13, true) }) rfl (fun K hK => ?_) AllReadyH.nil
              go_simp
              refine (is_none _ _ _ _ (okk_of hz.2.2.2.1)).mono ?_
              rintro e w6 ⟨rfl, b6⟩
              have b26 : Below w2.heap.size w2 w6 := b25.trans (b6.mono b25.size)
              clear b6
              (try dsimp only)
              refine hK.out _ _ (KT.out _ b26) (fun hHeld => ?_)
              clear hK K
              (try simp only [Act.put, List.setIfInBounds_toArray, List.set_cons_zero, List.set_cons_succ])
              refine wpAnyH_take (i := 21) (oi := { dst := some 51, op := Op.pick (Operand.tmp 43) (Operand.tmp 50) (Operand.const (Value.bool false)), type := 4, pos := "mean.go:30", after := #[{ on := 13, ground := Ground.data }, { on := 20, ground := Ground.data }], guard := none }) (v := .bool false) rfl (by kernel_rfl) (by kernel_rfl) (by kernel_rfl) (fun _ _ _ h => h) (Or.inl ⟨by kernel_rfl, fun w hSw => ?_⟩) (by assumption) ?_
              · (try dsimp only at hSw); go_simp
              (try simp only [Act.put, List.setIfInBounds_toArray, List.set_cons_zero, List.set_cons_succ])
              refine wpAnyH_take (i := 22) (oi := { dst := some 6, op := Op.assign (Operand.tmp 51), type := 4, pos := "mean.go:30", after := #[{ on := 21, ground := Ground.data }, { on := 20, ground := Ground.chain }, { on := 0, ground := Ground.phase }, { on := 1, ground := Ground.phase }, { on := 2, ground := Ground.phase }, { on := 3, ground := Ground.phase }, { on := 4, ground := Ground.phase }, { on := 5, ground := Ground.phase }, { on := 6, ground := Ground.phase }, { on := 7, ground := Ground.phase }, { on := 8, ground := Ground.phase }, { on := 9, ground := Ground.phase }, { on := 10, ground := Ground.phase }, { on := 11, ground := Ground.phase }, { on := 12, ground := Ground.phase }, { on := 13, ground := Ground.phase }, { on := 14, ground := Ground.phase }, { on := 15, ground := Ground.phase }, { on := 16, ground := Ground.phase }, { on := 17, ground := Ground.phase }, { on := 18, ground := Ground.phase }, { on := 19, ground := Ground.phase }, { on := 20, ground := Ground.phase }, { on := 21, ground := Ground.phase }], guard := none }) (v := .bool false) rfl (by kernel_rfl) (by kernel_rfl) (by kernel_rfl) (fun _ _ _ h => h) (Or.inl ⟨by kernel_rfl, fun w hSw => ?_⟩) (by assumption) ?_
              · (try dsimp only at hSw); go_simp
              (try simp only [Act.put, List.setIfInBounds_toArray, List.set_cons_zero, List.set_cons_succ])
              refine wpAnyH_done (by kernel_rfl) ?_ _
              go_wp2_with fail
              go_ret
              exact ⟨by rw [hm.out]; rfl, hw2.out.trans (b26.mono hw2.out.size)⟩
            | true =>
              have C48 : Hid (∀ v, Below w2.heap.size w2 v → Calls Try.prog 48 #[.agg #[.slice P.ao P.al.length P.ac, .slice P.so P.sl.length P.sc, P.ro, .slice P.oo P.ol.length P.oc, P.gr, .slice P.m.1 P.m.2.2.length P.m.2.1, .slice P.i.1 P.i.2.2.length P.i.2.1, .slice P.p.1 P.p.2.2.length P.p.2.1, .slice P.w.1 P.w.2.2.length P.w.2.1, P.ru, P.ex], .string to] v fun e w' => PartyIs (P.p.2.2 ++ P.w.2.2) to 0 v e w') := fun v b => (C48a.out v b).mono fun e w' q => by
                rcases q with ⟨_, q⟩ | ⟨q, _, _⟩
                · exact q
                · rw [hobj] at q; cases q
              refine wp_region_held_drew (S := fun w' => w'.cell? ⟨q0, 0, none⟩ = some (.slice P.ao P.al.length P.ac) ∧ w'.cell? ⟨q0, 1, none⟩ = some (.slice P.so P.sl.length P.sc) ∧ w'.cell? ⟨q0, 2, none⟩ = some P.ro ∧ w'.cell? ⟨q0, 3, none⟩ = some (.slice P.oo P.ol.length P.oc) ∧ w'.cell? ⟨q0, 4, none⟩ = some P.gr ∧ w'.cell? ⟨q0, 5, none⟩ = some (.slice P.m.1 P.m.2.2.length P.m.2.1) ∧ w'.cell? ⟨q0, 6, none⟩ = some (.slice P.i.1 P.i.2.2.length P.i.2.1) ∧ w'.cell? ⟨q0, 7, none⟩ = some (.slice P.p.1 P.p.2.2.length P.p.2.1) ∧ w'.cell? ⟨q0, 8, none⟩ = some (.slice P.w.1 P.w.2.2.length P.w.2.1) ∧ w'.cell? ⟨q0, 9, none⟩ = some P.ru ∧ w'.cell? ⟨q0, 10, none⟩ = some P.ex ∧ w'.cell? ⟨q1, 0, none⟩ = some R.d ∧ w'.cell? ⟨q1, 1, none⟩ = some (.string R.who) ∧ w'.cell? ⟨q1, 2, none⟩ = some (.string R.what) ∧ w'.cell? ⟨q1, 3, none⟩ = some (.slice R.ro R.rl.length R.rc) ∧ w'.cell? ⟨q1, 4, none⟩ = some (.int .i8 R.cd) ∧ w'.cell? ⟨q1, 5, none⟩ = some (.float .f64 R.lv) ∧ w'.cell? ⟨q2, 0, none⟩ = some (.string ts) ∧ w'.cell? ⟨q2, 1, none⟩ = some (.string to) ∧ w'.cell? ⟨q2, 2, none⟩ = some (.string ta) ∧ w'.cell? ⟨pb, 0, none⟩ = some (.string ts) ∧ w'.cell? ⟨pb, 1, none⟩ = some (.float .f64 t) ∧ w'.cell? ⟨pb, 2, none⟩ = some (.map (some nb))) (by kernel_rfl) (KT.out _ hd) (fun hHeld => ?_)
              refine wpAnyH_take (i := 0) (oi := { dst := some 30, op := Op.move (Operand.tmp 7), type := 4, pos := "mean.go:30", after := #[], guard := none }) (v := .bool true) rfl (by kernel_rfl) (by kernel_rfl) (by kernel_rfl) (fun _ _ _ h => h) (Or.inl ⟨by kernel_rfl, fun w hSw => ?_⟩) (by assumption) ?_
              · (try dsimp only at hSw); go_simp
              (try simp only [Act.put, List.setIfInBounds_toArray, List.set_cons_zero, List.set_cons_succ])
              refine wpAnyH_take (i := 1) (oi := { dst := some 31, op := Op.move (Operand.tmp 30), type := 4, pos := "mean.go:30", after := #[{ on := 0, ground := Ground.data }], guard := none }) (v := .bool true) rfl (by kernel_rfl) (by kernel_rfl) (by kernel_rfl) (fun _ _ _ h => h) (Or.inl ⟨by kernel_rfl, fun w hSw => ?_⟩) (by assumption) ?_
              · (try dsimp only at hSw); go_simp
              (try simp only [Act.put, List.setIfInBounds_toArray, List.set_cons_zero, List.set_cons_succ])
              refine wpAnyH_take (i := 2) (oi := { dst := some 32, op := Op.load 66 (Operand.tmp 8), type := 66, pos := "mean.go:30", after := #[{ on := 1, ground := Ground.guard }], guard := some (1, true) }) (v := .agg #[.string ts, .float .f64 t, .map (some nb)]) rfl (by kernel_rfl) (by kernel_rfl) (by kernel_rfl) (fun _ _ _ h => h) (Or.inl ⟨by kernel_rfl, fun w hSw => ?_⟩) (by assumption) ?_
              · (try dsimp only at hSw); go_simp
              (try simp only [Act.put, List.setIfInBounds_toArray, List.set_cons_zero, List.set_cons_succ])
              refine wpAnyH_take (i := 3) (oi := { dst := some 33, op := Op.fieldAddr 27 (Operand.tmp 4) 1, type := 0, pos := "mean.go:30", after := #[{ on := 1, ground := Ground.guard }], guard := some (1, true) }) (v := .pointer (some ⟨q1, 1, none⟩)) rfl (by kernel_rfl) (by kernel_rfl) (by kernel_rfl) (fun _ _ _ h => h) (Or.inl ⟨by kernel_rfl, fun w hSw => ?_⟩) (by assumption) ?_
              · (try dsimp only at hSw); go_simp
              (try simp only [Act.put, List.setIfInBounds_toArray, List.set_cons_zero, List.set_cons_succ])
              refine wpAnyH_take (i := 4) (oi := { dst := some 34, op := Op.load 9 (Operand.tmp 33), type := 9, pos := "mean.go:30", after := #[{ on := 3, ground := Ground.data }, { on := 1, ground := Ground.guard }], guard := some (1, true) }) (v := .string R.who) rfl (by kernel_rfl) (by kernel_rfl) (by kernel_rfl) (fun _ _ _ h => h) (Or.inl ⟨by kernel_rfl, fun w hSw => ?_⟩) (by assumption) ?_
              · (try dsimp only at hSw); go_simp
              (try simp only [Act.put, List.setIfInBounds_toArray, List.set_cons_zero, List.set_cons_succ])
              refine wpAnyH_ready (rs := [5]) (by kernel_rfl) (by simp) ?_
              refine AllReadyH.cons (o := { dst := some 35, op := Op.call { callee := Callee.value (Operand.func 47), args := #[Operand.tmp 32, Operand.tmp 34], argTypes := #[66, 9] }, type := 4, pos := "mean.go:30", after := #[{ on := 2, ground := Ground.data }, { on := 4, ground := Ground.data }, { on := 1, ground := Ground.chain }, { on := 1, ground := Ground.guard }], guard := some (1, true) }) rfl (fun K hK => ?_) AllReadyH.nil
              go_simp
              refine C47.out.mono ?_
              rintro e w3 ⟨rfl, b3⟩
              have b23 : Below w2.heap.size w2 w3 := ⟨b3.os, b3.tape, b3.output, b3.size, b3.block⟩
              clear b3
              (try dsimp only)
              refine hK.out _ _ (KT.out _ b23) (fun hHeld => ?_)
              clear hK K
              (try simp only [Act.put, List.setIfInBounds_toArray, List.set_cons_zero, List.set_cons_succ])
              refine wpAnyH_take (i := 6) (oi := { dst := some 36, op := Op.pick (Operand.tmp 31) (Operand.tmp 35) (Operand.const (Value.bool false)), type := 4, pos := "mean.go:30", after := #[{ on := 1, ground := Ground.data }, { on := 5, ground := Ground.data }], guard := none }) (v := .bool true) rfl (by kernel_rfl) (by kernel_rfl) (by kernel_rfl) (fun _ _ _ h => h) (Or.inl ⟨by kernel_rfl, fun w hSw => ?_⟩) (by assumption) ?_
              · (try dsimp only at hSw); go_simp
              (try simp only [Act.put, List.setIfInBounds_toArray, List.set_cons_zero, List.set_cons_succ])
              refine wpAnyH_take (i := 7) (oi := { dst := some 37, op := Op.move (Operand.tmp 36), type := 4, pos := "mean.go:30", after := #[{ on := 6, ground := Ground.data }, { on := 5, ground := Ground.chain }], guard := none }) (v := .bool true) rfl (by kernel_rfl) (by kernel_rfl) (by kernel_rfl) (fun _ _ _ h => h) (Or.inl ⟨by kernel_rfl, fun w hSw => ?_⟩) (by assumption) ?_
              · (try dsimp only at hSw); go_simp
              (try simp only [Act.put, List.setIfInBounds_toArray, List.set_cons_zero, List.set_cons_succ])
              refine wpAnyH_take (i := 8) (oi := { dst := some 38, op := Op.load 27 (Operand.tmp 4), type := 27, pos := "mean.go:30", after := #[{ on := 7, ground := Ground.guard }], guard := some (7, true) }) (v := .agg #[R.d, .string R.who, .string R.what, .slice R.ro R.rl.length R.rc, .int .i8 R.cd, .float .f64 R.lv]) rfl (by kernel_rfl) (by kernel_rfl) (by kernel_rfl) (fun _ _ _ h => h) (Or.inl ⟨by kernel_rfl, fun w hSw => ?_⟩) (by assumption) ?_
              · (try dsimp only at hSw); go_simp
              (try simp only [Act.put, List.setIfInBounds_toArray, List.set_cons_zero, List.set_cons_succ])
              refine wpAnyH_take (i := 9) (oi := { dst := some 39, op := Op.fieldAddr 66 (Operand.tmp 8) 1, type := 0, pos := "mean.go:30", after := #[{ on := 7, ground := Ground.guard }], guard := some (7, true) }) (v := .pointer (some ⟨pb, 1, none⟩)) rfl (by kernel_rfl) (by kernel_rfl) (by kernel_rfl) (fun _ _ _ h => h) (Or.inl ⟨by kernel_rfl, fun w hSw => ?_⟩) (by assumption) ?_
              · (try dsimp only at hSw); go_simp
              (try simp only [Act.put, List.setIfInBounds_toArray, List.set_cons_zero, List.set_cons_succ])
              refine wpAnyH_take (i := 10) (oi := { dst := some 40, op := Op.load 24 (Operand.tmp 39), type := 24, pos := "mean.go:30", after := #[{ on := 9, ground := Ground.data }, { on := 7, ground := Ground.guard }], guard := some (7, true) }) (v := .float .f64 t) rfl (by kernel_rfl) (by kernel_rfl) (by kernel_rfl) (fun _ _ _ h => h) (Or.inl ⟨by kernel_rfl, fun w hSw => ?_⟩) (by assumption) ?_
              · (try dsimp only at hSw); go_simp
              (try simp only [Act.put, List.setIfInBounds_toArray, List.set_cons_zero, List.set_cons_succ])
              refine wpAnyH_ready (rs := [11]) (by kernel_rfl) (by simp) ?_
              refine AllReadyH.cons (o := { dst := some 41, op := Op.call { callee := Callee.value (Operand.func 16), args := #[Operand.tmp 38, Operand.tmp 40], argTypes := #[27, 24] }, type := 4, pos := "mean.go:30", after := #[{ on := 8, ground := Ground.data }, { on := 10, ground := Ground.data }, { on := 7, ground := Ground.chain }, { on := 7, ground := Ground.guard }], guard := some (7, true) }) rfl (fun K hK => ?_) AllReadyH.nil
              go_simp
              refine (C16.out w3).mono ?_
              rintro e w4 ⟨rfl, b4⟩
              have b24 : Below w2.heap.size w2 w4 := b23.trans (b4.mono b23.size)
              clear b4
              (try dsimp only)
              refine hK.out _ _ (KT.out _ b24) (fun hHeld => ?_)
              clear hK K
              (try simp only [Act.put, List.setIfInBounds_toArray, List.set_cons_zero, List.set_cons_succ])
              refine wpAnyH_take (i := 12) (oi := { dst := some 42, op := Op.pick (Operand.tmp 37) (Operand.tmp 41) (Operand.const (Value.bool false)), type := 4, pos := "mean.go:30", after := #[{ on := 7, ground := Ground.data }, { on := 11, ground := Ground.data }], guard := none }) (v := .bool true) rfl (by kernel_rfl) (by kernel_rfl) (by kernel_rfl) (fun _ _ _ h => h) (Or.inl ⟨by kernel_rfl, fun w hSw => ?_⟩) (by assumption) ?_
              · (try dsimp only at hSw); go_simp
              (try simp only [Act.put, List.setIfInBounds_toArray, List.set_cons_zero, List.set_cons_succ])
              refine wpAnyH_take (i := 13) (oi := { dst := some 43, op := Op.move (Operand.tmp 42), type := 4, pos := "mean.go:30", after := #[{ on := 12, ground := Ground.data }, { on := 11, ground := Ground.chain }], guard := none }) (v := .bool true) rfl (by kernel_rfl) (by kernel_rfl) (by kernel_rfl) (fun _ _ _ h => h) (Or.inl ⟨by kernel_rfl, fun w hSw => ?_⟩) (by assumption) ?_
              · (try dsimp only at hSw); go_simp
              (try simp only [Act.put, List.setIfInBounds_toArray, List.set_cons_zero, List.set_cons_succ])
              refine wpAnyH_take (i := 14) (oi := { dst := some 44, op := Op.load 34 (Operand.tmp 3), type := 34, pos := "mean.go:30", after := #[{ on := 13, ground := Ground.guard }], guard := some (13, true) }) (v := .agg #[.slice P.ao P.al.length P.ac, .slice P.so P.sl.length P.sc, P.ro, .slice P.oo P.ol.length P.oc, P.gr, .slice P.m.1 P.m.2.2.length P.m.2.1, .slice P.i.1 P.i.2.2.length P.i.2.1, .slice P.p.1 P.p.2.2.length P.p.2.1, .slice P.w.1 P.w.2.2.length P.w.2.1, P.ru, P.ex]) rfl (by kernel_rfl) (by kernel_rfl) (by kernel_rfl) (fun _ _ _ h => h) (Or.inl ⟨by kernel_rfl, fun w hSw => ?_⟩) (by assumption) ?_
              · (try dsimp only at hSw); go_simp
              (try simp only [Act.put, List.setIfInBounds_toArray, List.set_cons_zero, List.set_cons_succ])
              refine wpAnyH_take (i := 15) (oi := { dst := some 45, op := Op.fieldAddr 36 (Operand.tmp 5) 1, type := 0, pos := "mean.go:30", after := #[{ on := 13, ground := Ground.guard }], guard := some (13, true) }) (v := .pointer (some ⟨q2, 1, none⟩)) rfl (by kernel_rfl) (by kernel_rfl) (by kernel_rfl) (fun _ _ _ h => h) (Or.inl ⟨by kernel_rfl, fun w hSw => ?_⟩) (by assumption) ?_
              · (try dsimp only at hSw); go_simp
              (try simp only [Act.put, List.setIfInBounds_toArray, List.set_cons_zero, List.set_cons_succ])
              refine wpAnyH_take (i := 16) (oi := { dst := some 46, op := Op.load 9 (Operand.tmp 45), type := 9, pos := "mean.go:30", after := #[{ on := 15, ground := Ground.data }, { on := 13, ground := Ground.guard }], guard := some (13, true) }) (v := .string to) rfl (by kernel_rfl) (by kernel_rfl) (by kernel_rfl) (fun _ _ _ h => h) (Or.inl ⟨by kernel_rfl, fun w hSw => ?_⟩) (by assumption) ?_
              · (try dsimp only at hSw); go_simp
              (try simp only [Act.put, List.setIfInBounds_toArray, List.set_cons_zero, List.set_cons_succ])
              refine wpAnyH_take (i := 18) (oi := { dst := some 48, op := Op.fieldAddr 27 (Operand.tmp 4) 2, type := 0, pos := "mean.go:30", after := #[{ on := 13, ground := Ground.guard }], guard := some (13, true) }) (v := .pointer (some ⟨q1, 2, none⟩)) rfl (by kernel_rfl) (by kernel_rfl) (by kernel_rfl) (fun _ _ _ h => h) (Or.inl ⟨by kernel_rfl, fun w hSw => ?_⟩) (by assumption) ?_
              · (try dsimp only at hSw); go_simp
              (try simp only [Act.put, List.setIfInBounds_toArray, List.set_cons_zero, List.set_cons_succ])
              refine wpAnyH_take (i := 19) (oi := { dst := some 49, op := Op.load 9 (Operand.tmp 48), type := 9, pos := "mean.go:30", after := #[{ on := 18, ground := Ground.data }, { on := 13, ground := Ground.guard }], guard := some (13, true) }) (v := .string R.what) rfl (by kernel_rfl) (by kernel_rfl) (by kernel_rfl) (fun _ _ _ h => h) (Or.inl ⟨by kernel_rfl, fun w hSw => ?_⟩) (by assumption) ?_
              · (try dsimp only at hSw); go_simp
              (try simp only [Act.put, List.setIfInBounds_toArray, List.set_cons_zero, List.set_cons_succ])
              refine wpAnyH_ready (rs := [17]) (by kernel_rfl) (by simp) ?_
              refine AllReadyH.cons (o := { dst := some 47, op := Op.call { callee := Callee.value (Operand.func 48), args := #[Operand.tmp 44, Operand.tmp 46], argTypes := #[34, 9] }, type := 66, pos := "mean.go:30", after := #[{ on := 14, ground := Ground.data }, { on := 16, ground := Ground.data }, { on := 13, ground := Ground.chain }, { on := 13, ground := Ground.guard }], guard := some (13, true) }) rfl (fun K hK => ?_) AllReadyH.nil
              go_simp
              refine (C48.out w4 b24).mono ?_
              rintro e w5 ⟨nb2, ms2, rfl, hnb2, hN2, hmem2, b5⟩
              have b25 : Below w2.heap.size w2 w5 := b24.trans (b5.mono b24.size)
              have N5 := hide' (And.intro hN2 hmem2)
              clear b5 hN2 hmem2 hnb2
              (try dsimp only)
              refine hK.out _ _ (KT.out _ b25) (fun hHeld => ?_)
              clear hK K
              (try simp only [Act.put, List.setIfInBounds_toArray, List.set_cons_zero, List.set_cons_succ])
              refine wpAnyH_ready (rs := [20]) (by kernel_rfl) (by simp) ?_
              refine AllReadyH.cons (o := { dst := some 50, op := Op.call { callee := Callee.value (Operand.func 47), args := #[Operand.tmp 47, Operand.tmp 49], argTypes := #[66, 9] }, type := 4, pos := "mean.go:30", after := #[{ on := 17, ground := Ground.data }, { on := 19, ground := Ground.data }, { on := 17, ground := Ground.chain }, { on := 13, ground := Ground.guard }], guard := some (13, true) }) rfl (fun K hK => ?_) AllReadyH.nil
              go_simp
              refine (is_any _ _ _ _ _ _ N5.out.1 (okk_of hz.2.2.2.1)).mono ?_
              rintro e w6 ⟨rfl, b6⟩
              have b26 : Below w2.heap.size w2 w6 := b25.trans (b6.mono b25.size)
              clear b6
              (try dsimp only)
              refine hK.out _ _ (KT.out _ b26) (fun hHeld => ?_)
              clear hK K
              (try simp only [Act.put, List.setIfInBounds_toArray, List.set_cons_zero, List.set_cons_succ])
              refine wpAnyH_take (i := 21) (oi := { dst := some 51, op := Op.pick (Operand.tmp 43) (Operand.tmp 50) (Operand.const (Value.bool false)), type := 4, pos := "mean.go:30", after := #[{ on := 13, ground := Ground.data }, { on := 20, ground := Ground.data }], guard := none }) (v := .bool (isIn ms2 R.what)) rfl (by kernel_rfl) (by kernel_rfl) (by kernel_rfl) (fun _ _ _ h => h) (Or.inl ⟨by kernel_rfl, fun w hSw => ?_⟩) (by assumption) ?_
              · (try dsimp only at hSw); go_simp
              (try simp only [Act.put, List.setIfInBounds_toArray, List.set_cons_zero, List.set_cons_succ])
              refine wpAnyH_take (i := 22) (oi := { dst := some 6, op := Op.assign (Operand.tmp 51), type := 4, pos := "mean.go:30", after := #[{ on := 21, ground := Ground.data }, { on := 20, ground := Ground.chain }, { on := 0, ground := Ground.phase }, { on := 1, ground := Ground.phase }, { on := 2, ground := Ground.phase }, { on := 3, ground := Ground.phase }, { on := 4, ground := Ground.phase }, { on := 5, ground := Ground.phase }, { on := 6, ground := Ground.phase }, { on := 7, ground := Ground.phase }, { on := 8, ground := Ground.phase }, { on := 9, ground := Ground.phase }, { on := 10, ground := Ground.phase }, { on := 11, ground := Ground.phase }, { on := 12, ground := Ground.phase }, { on := 13, ground := Ground.phase }, { on := 14, ground := Ground.phase }, { on := 15, ground := Ground.phase }, { on := 16, ground := Ground.phase }, { on := 17, ground := Ground.phase }, { on := 18, ground := Ground.phase }, { on := 19, ground := Ground.phase }, { on := 20, ground := Ground.phase }, { on := 21, ground := Ground.phase }], guard := none }) (v := .bool (isIn ms2 R.what)) rfl (by kernel_rfl) (by kernel_rfl) (by kernel_rfl) (fun _ _ _ h => h) (Or.inl ⟨by kernel_rfl, fun w hSw => ?_⟩) (by assumption) ?_
              · (try dsimp only at hSw); go_simp
              (try simp only [Act.put, List.setIfInBounds_toArray, List.set_cons_zero, List.set_cons_succ])
              have hm : Hid (mtc P R ts to ta = isIn ms2 R.what) := by show _ = _; unfold mtc; rw [hact, hspb, htH.out]; simp only []; rw [← hwH.out, hwho, hpass, hobj, isIn_iff N5.out.2 R.what]; simp
              refine wpAnyH_done (by kernel_rfl) ?_ _
              go_wp2_with fail
              go_ret
              exact ⟨by rw [hm.out]; rfl, hw2.out.trans (b26.mono hw2.out.size)⟩
      · have b2 : Hid (Below V.heap.size V (w1.alloc (.cells #[.string ⟨#[]⟩, .float .f64 0, .map none] 66))) := b1.trans (((Below.refl _ _).alloc (Nat.le_refl _) _).mono b1.size)
        have g2 := heap_alloc_new w1 (.cells #[.string ⟨#[]⟩, .float .f64 0, .map none] 66)
        have hw2 : Hid (Below w.heap.size w (w1.alloc (.cells #[.string ⟨#[]⟩, .float .f64 0, .map none] 66))) := HbV.out.trans (b2.out.mono HbV.out.size)
        have hI2 := hide' (HI.out.below b2.out)

        obtain ⟨e0, e1, e2, e3, e4, e5, e6, e7, e8, e9, e10, e11, e12, e13, e14, e15, e16, e17, e18, e19⟩ := KS.out _ b2.out
        have u0 : (w1.alloc (.cells #[.string ⟨#[]⟩, .float .f64 0, .map none] 66)).cell? ⟨w1.heap.size, 0, none⟩ = some (.string ⟨#[]⟩) := by rw [Lib.cell_of_heap g2]; rfl
        have u1 : (w1.alloc (.cells #[.string ⟨#[]⟩, .float .f64 0, .map none] 66)).cell? ⟨w1.heap.size, 1, none⟩ = some (.float .f64 0) := by rw [Lib.cell_of_heap g2]; rfl
        have u2 : (w1.alloc (.cells #[.string ⟨#[]⟩, .float .f64 0, .map none] 66)).cell? ⟨w1.heap.size, 2, none⟩ = some (.map none) := by rw [Lib.cell_of_heap g2]; rfl
        have hpl := lt_of_heap g2
        have hbl := b2.out.size
        go_wp2_with fail
        clear g2
        generalize w1.heap.size = pb at *
        generalize w1.alloc (.cells #[.string ⟨#[]⟩, .float .f64 0, .map none] 66) = w2 at *
        have KT : Hid (∀ w', Below w2.heap.size w2 w' → w'.cell? ⟨q0, 0, none⟩ = some (.slice P.ao P.al.length P.ac) ∧ w'.cell? ⟨q0, 1, none⟩ = some (.slice P.so P.sl.length P.sc) ∧ w'.cell? ⟨q0, 2, none⟩ = some P.ro ∧ w'.cell? ⟨q0, 3, none⟩ = some (.slice P.oo P.ol.length P.oc) ∧ w'.cell? ⟨q0, 4, none⟩ = some P.gr ∧ w'.cell? ⟨q0, 5, none⟩ = some (.slice P.m.1 P.m.2.2.length P.m.2.1) ∧ w'.cell? ⟨q0, 6, none⟩ = some (.slice P.i.1 P.i.2.2.length P.i.2.1) ∧ w'.cell? ⟨q0, 7, none⟩ = some (.slice P.p.1 P.p.2.2.length P.p.2.1) ∧ w'.cell? ⟨q0, 8, none⟩ = some (.slice P.w.1 P.w.2.2.length P.w.2.1) ∧ w'.cell? ⟨q0, 9, none⟩ = some P.ru ∧ w'.cell? ⟨q0, 10, none⟩ = some P.ex ∧ w'.cell? ⟨q1, 0, none⟩ = some R.d ∧ w'.cell? ⟨q1, 1, none⟩ = some (.string R.who) ∧ w'.cell? ⟨q1, 2, none⟩ = some (.string R.what) ∧ w'.cell? ⟨q1, 3, none⟩ = some (.slice R.ro R.rl.length R.rc) ∧ w'.cell? ⟨q1, 4, none⟩ = some (.int .i8 R.cd) ∧ w'.cell? ⟨q1, 5, none⟩ = some (.float .f64 R.lv) ∧ w'.cell? ⟨q2, 0, none⟩ = some (.string ts) ∧ w'.cell? ⟨q2, 1, none⟩ = some (.string to) ∧ w'.cell? ⟨q2, 2, none⟩ = some (.string ta) ∧ w'.cell? ⟨pb, 0, none⟩ = some (.string ⟨#[]⟩) ∧ w'.cell? ⟨pb, 1, none⟩ = some (.float .f64 0) ∧ w'.cell? ⟨pb, 2, none⟩ = some (.map none)) := fun w' b => ⟨(b.cell (p := ⟨q0, 0, none⟩) (Nat.lt_of_lt_of_le hlsH.out.1 hbl)).trans e0, (b.cell (p := ⟨q0, 1, none⟩) (Nat.lt_of_lt_of_le hlsH.out.1 hbl)).trans e1, (b.cell (p := ⟨q0, 2, none⟩) (Nat.lt_of_lt_of_le hlsH.out.1 hbl)).trans e2, (b.cell (p := ⟨q0, 3, none⟩) (Nat.lt_of_lt_of_le hlsH.out.1 hbl)).trans e3, (b.cell (p := ⟨q0, 4, none⟩) (Nat.lt_of_lt_of_le hlsH.out.1 hbl)).trans e4, (b.cell (p := ⟨q0, 5, none⟩) (Nat.lt_of_lt_of_le hlsH.out.1 hbl)).trans e5, (b.cell (p := ⟨q0, 6, none⟩) (Nat.lt_of_lt_of_le hlsH.out.1 hbl)).trans e6, (b.cell (p := ⟨q0, 7, none⟩) (Nat.lt_of_lt_of_le hlsH.out.1 hbl)).trans e7, (b.cell (p := ⟨q0, 8, none⟩) (Nat.lt_of_lt_of_le hlsH.out.1 hbl)).trans e8, (b.cell (p := ⟨q0, 9, none⟩) (Nat.lt_of_lt_of_le hlsH.out.1 hbl)).trans e9, (b.cell (p := ⟨q0, 10, none⟩) (Nat.lt_of_lt_of_le hlsH.out.1 hbl)).trans e10, (b.cell (p := ⟨q1, 0, none⟩) (Nat.lt_of_lt_of_le hlsH.out.2.1 hbl)).trans e11, (b.cell (p := ⟨q1, 1, none⟩) (Nat.lt_of_lt_of_le hlsH.out.2.1 hbl)).trans e12, (b.cell (p := ⟨q1, 2, none⟩) (Nat.lt_of_lt_of_le hlsH.out.2.1 hbl)).trans e13, (b.cell (p := ⟨q1, 3, none⟩) (Nat.lt_of_lt_of_le hlsH.out.2.1 hbl)).trans e14, (b.cell (p := ⟨q1, 4, none⟩) (Nat.lt_of_lt_of_le hlsH.out.2.1 hbl)).trans e15, (b.cell (p := ⟨q1, 5, none⟩) (Nat.lt_of_lt_of_le hlsH.out.2.1 hbl)).trans e16, (b.cell (p := ⟨q2, 0, none⟩) (Nat.lt_of_lt_of_le hlsH.out.2.2 hbl)).trans e17, (b.cell (p := ⟨q2, 1, none⟩) (Nat.lt_of_lt_of_le hlsH.out.2.2 hbl)).trans e18, (b.cell (p := ⟨q2, 2, none⟩) (Nat.lt_of_lt_of_le hlsH.out.2.2 hbl)).trans e19, (b.cell (p := ⟨pb, 0, none⟩) hpl).trans u0, (b.cell (p := ⟨pb, 1, none⟩) hpl).trans u1, (b.cell (p := ⟨pb, 2, none⟩) hpl).trans u2⟩
        have hd : Below w2.heap.size w2 w2.drew := ⟨rfl, rfl, rfl, Nat.le_refl _, fun _ _ => rfl⟩
        have C47 : Hid (Calls Try.prog 47 #[.agg #[.string ⟨#[]⟩, .float .f64 0, .map none], .string R.who] w2.drew fun e w' => e = .returned (.bool false) ∧ Below w2.drew.heap.size w2.drew w') := is_none _ _ _ _ (okk_of hz.2.2.1)
        have hm : Hid (mtc P R ts to ta = false) := by show _ = _; unfold mtc; rw [hact, hspb, ht]; simp
        refine wp_region_held_drew (S := fun w' => w'.cell? ⟨q0, 0, none⟩ = some (.slice P.ao P.al.length P.ac) ∧ w'.cell? ⟨q0, 1, none⟩ = some (.slice P.so P.sl.length P.sc) ∧ w'.cell? ⟨q0, 2, none⟩ = some P.ro ∧ w'.cell? ⟨q0, 3, none⟩ = some (.slice P.oo P.ol.length P.oc) ∧ w'.cell? ⟨q0, 4, none⟩ = some P.gr ∧ w'.cell? ⟨q0, 5, none⟩ = some (.slice P.m.1 P.m.2.2.length P.m.2.1) ∧ w'.cell? ⟨q0, 6, none⟩ = some (.slice P.i.1 P.i.2.2.length P.i.2.1) ∧ w'.cell? ⟨q0, 7, none⟩ = some (.slice P.p.1 P.p.2.2.length P.p.2.1) ∧ w'.cell? ⟨q0, 8, none⟩ = some (.slice P.w.1 P.w.2.2.length P.w.2.1) ∧ w'.cell? ⟨q0, 9, none⟩ = some P.ru ∧ w'.cell? ⟨q0, 10, none⟩ = some P.ex ∧ w'.cell? ⟨q1, 0, none⟩ = some R.d ∧ w'.cell? ⟨q1, 1, none⟩ = some (.string R.who) ∧ w'.cell? ⟨q1, 2, none⟩ = some (.string R.what) ∧ w'.cell? ⟨q1, 3, none⟩ = some (.slice R.ro R.rl.length R.rc) ∧ w'.cell? ⟨q1, 4, none⟩ = some (.int .i8 R.cd) ∧ w'.cell? ⟨q1, 5, none⟩ = some (.float .f64 R.lv) ∧ w'.cell? ⟨q2, 0, none⟩ = some (.string ts) ∧ w'.cell? ⟨q2, 1, none⟩ = some (.string to) ∧ w'.cell? ⟨q2, 2, none⟩ = some (.string ta) ∧ w'.cell? ⟨pb, 0, none⟩ = some (.string ⟨#[]⟩) ∧ w'.cell? ⟨pb, 1, none⟩ = some (.float .f64 0) ∧ w'.cell? ⟨pb, 2, none⟩ = some (.map none)) (by kernel_rfl) (KT.out _ hd) (fun hHeld => ?_)
        refine wpAnyH_take (i := 0) (oi := { dst := some 30, op := Op.move (Operand.tmp 7), type := 4, pos := "mean.go:30", after := #[], guard := none }) (v := .bool true) rfl (by kernel_rfl) (by kernel_rfl) (by kernel_rfl) (fun _ _ _ h => h) (Or.inl ⟨by kernel_rfl, fun w hSw => ?_⟩) (by assumption) ?_
        · (try dsimp only at hSw); go_simp
        (try simp only [Act.put, List.setIfInBounds_toArray, List.set_cons_zero, List.set_cons_succ])
        refine wpAnyH_take (i := 1) (oi := { dst := some 31, op := Op.move (Operand.tmp 30), type := 4, pos := "mean.go:30", after := #[{ on := 0, ground := Ground.data }], guard := none }) (v := .bool true) rfl (by kernel_rfl) (by kernel_rfl) (by kernel_rfl) (fun _ _ _ h => h) (Or.inl ⟨by kernel_rfl, fun w hSw => ?_⟩) (by assumption) ?_
        · (try dsimp only at hSw); go_simp
        (try simp only [Act.put, List.setIfInBounds_toArray, List.set_cons_zero, List.set_cons_succ])
        refine wpAnyH_take (i := 2) (oi := { dst := some 32, op := Op.load 66 (Operand.tmp 8), type := 66, pos := "mean.go:30", after := #[{ on := 1, ground := Ground.guard }], guard := some (1, true) }) (v := .agg #[.string ⟨#[]⟩, .float .f64 0, .map none]) rfl (by kernel_rfl) (by kernel_rfl) (by kernel_rfl) (fun _ _ _ h => h) (Or.inl ⟨by kernel_rfl, fun w hSw => ?_⟩) (by assumption) ?_
        · (try dsimp only at hSw); go_simp
        (try simp only [Act.put, List.setIfInBounds_toArray, List.set_cons_zero, List.set_cons_succ])
        refine wpAnyH_take (i := 3) (oi := { dst := some 33, op := Op.fieldAddr 27 (Operand.tmp 4) 1, type := 0, pos := "mean.go:30", after := #[{ on := 1, ground := Ground.guard }], guard := some (1, true) }) (v := .pointer (some ⟨q1, 1, none⟩)) rfl (by kernel_rfl) (by kernel_rfl) (by kernel_rfl) (fun _ _ _ h => h) (Or.inl ⟨by kernel_rfl, fun w hSw => ?_⟩) (by assumption) ?_
        · (try dsimp only at hSw); go_simp
        (try simp only [Act.put, List.setIfInBounds_toArray, List.set_cons_zero, List.set_cons_succ])
        refine wpAnyH_take (i := 4) (oi := { dst := some 34, op := Op.load 9 (Operand.tmp 33), type := 9, pos := "mean.go:30", after := #[{ on := 3, ground := Ground.data }, { on := 1, ground := Ground.guard }], guard := some (1, true) }) (v := .string R.who) rfl (by kernel_rfl) (by kernel_rfl) (by kernel_rfl) (fun _ _ _ h => h) (Or.inl ⟨by kernel_rfl, fun w hSw => ?_⟩) (by assumption) ?_
        · (try dsimp only at hSw); go_simp
        (try simp only [Act.put, List.setIfInBounds_toArray, List.set_cons_zero, List.set_cons_succ])
        refine wpAnyH_ready (rs := [5]) (by kernel_rfl) (by simp) ?_
        refine AllReadyH.cons (o := { dst := some 35, op := Op.call { callee := Callee.value (Operand.func 47), args := #[Operand.tmp 32, Operand.tmp 34], argTypes := #[66, 9] }, type := 4, pos := "mean.go:30", after := #[{ on := 2, ground := Ground.data }, { on := 4, ground := Ground.data }, { on := 1, ground := Ground.chain }, { on := 1, ground := Ground.guard }], guard := some (1, true) }) rfl (fun K hK => ?_) AllReadyH.nil
        go_simp
        refine C47.out.mono ?_
        rintro e w3 ⟨rfl, b3⟩
        have b23 : Below w2.heap.size w2 w3 := ⟨b3.os, b3.tape, b3.output, b3.size, b3.block⟩
        clear b3
        (try dsimp only)
        refine hK.out _ _ (KT.out _ b23) (fun hHeld => ?_)
        clear hK K
        (try simp only [Act.put, List.setIfInBounds_toArray, List.set_cons_zero, List.set_cons_succ])
        refine wpAnyH_take (i := 6) (oi := { dst := some 36, op := Op.pick (Operand.tmp 31) (Operand.tmp 35) (Operand.const (Value.bool false)), type := 4, pos := "mean.go:30", after := #[{ on := 1, ground := Ground.data }, { on := 5, ground := Ground.data }], guard := none }) (v := .bool false) rfl (by kernel_rfl) (by kernel_rfl) (by kernel_rfl) (fun _ _ _ h => h) (Or.inl ⟨by kernel_rfl, fun w hSw => ?_⟩) (by assumption) ?_
        · (try dsimp only at hSw); go_simp
        (try simp only [Act.put, List.setIfInBounds_toArray, List.set_cons_zero, List.set_cons_succ])
        refine wpAnyH_take (i := 7) (oi := { dst := some 37, op := Op.move (Operand.tmp 36), type := 4, pos := "mean.go:30", after := #[{ on := 6, ground := Ground.data }, { on := 5, ground := Ground.chain }], guard := none }) (v := .bool false) rfl (by kernel_rfl) (by kernel_rfl) (by kernel_rfl) (fun _ _ _ h => h) (Or.inl ⟨by kernel_rfl, fun w hSw => ?_⟩) (by assumption) ?_
        · (try dsimp only at hSw); go_simp
        (try simp only [Act.put, List.setIfInBounds_toArray, List.set_cons_zero, List.set_cons_succ])
        refine wpAnyH_take (i := 8) (oi := { dst := some 38, op := Op.load 27 (Operand.tmp 4), type := 27, pos := "mean.go:30", after := #[{ on := 7, ground := Ground.guard }], guard := some (7, true) }) (v := undef) rfl (by kernel_rfl) (by kernel_rfl) (by kernel_rfl) (fun _ _ _ h => h) (Or.inr ⟨by kernel_rfl, rfl⟩) (by assumption) ?_
        (try simp only [Act.put, List.setIfInBounds_toArray, List.set_cons_zero, List.set_cons_succ])
        refine wpAnyH_take (i := 9) (oi := { dst := some 39, op := Op.fieldAddr 66 (Operand.tmp 8) 1, type := 0, pos := "mean.go:30", after := #[{ on := 7, ground := Ground.guard }], guard := some (7, true) }) (v := undef) rfl (by kernel_rfl) (by kernel_rfl) (by kernel_rfl) (fun _ _ _ h => h) (Or.inr ⟨by kernel_rfl, rfl⟩) (by assumption) ?_
        (try simp only [Act.put, List.setIfInBounds_toArray, List.set_cons_zero, List.set_cons_succ])
        refine wpAnyH_take (i := 10) (oi := { dst := some 40, op := Op.load 24 (Operand.tmp 39), type := 24, pos := "mean.go:30", after := #[{ on := 9, ground := Ground.data }, { on := 7, ground := Ground.guard }], guard := some (7, true) }) (v := undef) rfl (by kernel_rfl) (by kernel_rfl) (by kernel_rfl) (fun _ _ _ h => h) (Or.inr ⟨by kernel_rfl, rfl⟩) (by assumption) ?_
        (try simp only [Act.put, List.setIfInBounds_toArray, List.set_cons_zero, List.set_cons_succ])
        refine wpAnyH_take (i := 11) (oi := { dst := some 41, op := Op.call { callee := Callee.value (Operand.func 16), args := #[Operand.tmp 38, Operand.tmp 40], argTypes := #[27, 24] }, type := 4, pos := "mean.go:30", after := #[{ on := 8, ground := Ground.data }, { on := 10, ground := Ground.data }, { on := 7, ground := Ground.chain }, { on := 7, ground := Ground.guard }], guard := some (7, true) }) (v := undef) rfl (by kernel_rfl) (by kernel_rfl) (by kernel_rfl) (fun _ _ _ h => h) (Or.inr ⟨by kernel_rfl, rfl⟩) (by assumption) ?_
        (try simp only [Act.put, List.setIfInBounds_toArray, List.set_cons_zero, List.set_cons_succ])
        refine wpAnyH_take (i := 12) (oi := { dst := some 42, op := Op.pick (Operand.tmp 37) (Operand.tmp 41) (Operand.const (Value.bool false)), type := 4, pos := "mean.go:30", after := #[{ on := 7, ground := Ground.data }, { on := 11, ground := Ground.data }], guard := none }) (v := .bool false) rfl (by kernel_rfl) (by kernel_rfl) (by kernel_rfl) (fun _ _ _ h => h) (Or.inl ⟨by kernel_rfl, fun w hSw => ?_⟩) (by assumption) ?_
        · (try dsimp only at hSw); go_simp
        (try simp only [Act.put, List.setIfInBounds_toArray, List.set_cons_zero, List.set_cons_succ])
        refine wpAnyH_take (i := 13) (oi := { dst := some 43, op := Op.move (Operand.tmp 42), type := 4, pos := "mean.go:30", after := #[{ on := 12, ground := Ground.data }, { on := 11, ground := Ground.chain }], guard := none }) (v := .bool false) rfl (by kernel_rfl) (by kernel_rfl) (by kernel_rfl) (fun _ _ _ h => h) (Or.inl ⟨by kernel_rfl, fun w hSw => ?_⟩) (by assumption) ?_
        · (try dsimp only at hSw); go_simp
        (try simp only [Act.put, List.setIfInBounds_toArray, List.set_cons_zero, List.set_cons_succ])
        refine wpAnyH_take (i := 14) (oi := { dst := some 44, op := Op.load 34 (Operand.tmp 3), type := 34, pos := "mean.go:30", after := #[{ on := 13, ground := Ground.guard }], guard := some (13, true) }) (v := undef) rfl (by kernel_rfl) (by kernel_rfl) (by kernel_rfl) (fun _ _ _ h => h) (Or.inr ⟨by kernel_rfl, rfl⟩) (by assumption) ?_
        (try simp only [Act.put, List.setIfInBounds_toArray, List.set_cons_zero, List.set_cons_succ])
        refine wpAnyH_take (i := 15) (oi := { dst := some 45, op := Op.fieldAddr 36 (Operand.tmp 5) 1, type := 0, pos := "mean.go:30", after := #[{ on := 13, ground := Ground.guard }], guard := some (13, true) }) (v := undef) rfl (by kernel_rfl) (by kernel_rfl) (by kernel_rfl) (fun _ _ _ h => h) (Or.inr ⟨by kernel_rfl, rfl⟩) (by assumption) ?_
        (try simp only [Act.put, List.setIfInBounds_toArray, List.set_cons_zero, List.set_cons_succ])
        refine wpAnyH_take (i := 16) (oi := { dst := some 46, op := Op.load 9 (Operand.tmp 45), type := 9, pos := "mean.go:30", after := #[{ on := 15, ground := Ground.data }, { on := 13, ground := Ground.guard }], guard := some (13, true) }) (v := undef) rfl (by kernel_rfl) (by kernel_rfl) (by kernel_rfl) (fun _ _ _ h => h) (Or.inr ⟨by kernel_rfl, rfl⟩) (by assumption) ?_
        (try simp only [Act.put, List.setIfInBounds_toArray, List.set_cons_zero, List.set_cons_succ])
        refine wpAnyH_take (i := 17) (oi := { dst := some 47, op := Op.call { callee := Callee.value (Operand.func 48), args := #[Operand.tmp 44, Operand.tmp 46], argTypes := #[34, 9] }, type := 66, pos := "mean.go:30", after := #[{ on := 14, ground := Ground.data }, { on := 16, ground := Ground.data }, { on := 13, ground := Ground.chain }, { on := 13, ground := Ground.guard }], guard := some (13, true) }) (v := undef) rfl (by kernel_rfl) (by kernel_rfl) (by kernel_rfl) (fun _ _ _ h => h) (Or.inr ⟨by kernel_rfl, rfl⟩) (by assumption) ?_
        (try simp only [Act.put, List.setIfInBounds_toArray, List.set_cons_zero, List.set_cons_succ])
        refine wpAnyH_take (i := 18) (oi := { dst := some 48, op := Op.fieldAddr 27 (Operand.tmp 4) 2, type := 0, pos := "mean.go:30", after := #[{ on := 13, ground := Ground.guard }], guard := some (13, true) }) (v := undef) rfl (by kernel_rfl) (by kernel_rfl) (by kernel_rfl) (fun _ _ _ h => h) (Or.inr ⟨by kernel_rfl, rfl⟩) (by assumption) ?_
        (try simp only [Act.put, List.setIfInBounds_toArray, List.set_cons_zero, List.set_cons_succ])
        refine wpAnyH_take (i := 19) (oi := { dst := some 49, op := Op.load 9 (Operand.tmp 48), type := 9, pos := "mean.go:30", after := #[{ on := 18, ground := Ground.data }, { on := 13, ground := Ground.guard }], guard := some (13, true) }) (v := undef) rfl (by kernel_rfl) (by kernel_rfl) (by kernel_rfl) (fun _ _ _ h => h) (Or.inr ⟨by kernel_rfl, rfl⟩) (by assumption) ?_
        (try simp only [Act.put, List.setIfInBounds_toArray, List.set_cons_zero, List.set_cons_succ])
        refine wpAnyH_take (i := 20) (oi := { dst := some 50, op := Op.call { callee := Callee.value (Operand.func 47), args := #[Operand.tmp 47, Operand.tmp 49], argTypes := #[66, 9] }, type := 4, pos := "mean.go:30", after := #[{ on := 17, ground := Ground.data }, { on := 19, ground := Ground.data }, { on := 17, ground := Ground.chain }, { on := 13, ground := Ground.guard }], guard := some (13, true) }) (v := undef) rfl (by kernel_rfl) (by kernel_rfl) (by kernel_rfl) (fun _ _ _ h => h) (Or.inr ⟨by kernel_rfl, rfl⟩) (by assumption) ?_
        (try simp only [Act.put, List.setIfInBounds_toArray, List.set_cons_zero, List.set_cons_succ])
        refine wpAnyH_take (i := 21) (oi := { dst := some 51, op := Op.pick (Operand.tmp 43) (Operand.tmp 50) (Operand.const (Value.bool false)), type := 4, pos := "mean.go:30", after := #[{ on := 13, ground := Ground.data }, { on := 20, ground := Ground.data }], guard := none }) (v := .bool false) rfl (by kernel_rfl) (by kernel_rfl) (by kernel_rfl) (fun _ _ _ h => h) (Or.inl ⟨by kernel_rfl, fun w hSw => ?_⟩) (by assumption) ?_
        · (try dsimp only at hSw); go_simp
        (try simp only [Act.put, List.setIfInBounds_toArray, List.set_cons_zero, List.set_cons_succ])
        refine wpAnyH_take (i := 22) (oi := { dst := some 6, op := Op.assign (Operand.tmp 51), type := 4, pos := "mean.go:30", after := #[{ on := 21, ground := Ground.data }, { on := 20, ground := Ground.chain }, { on := 0, ground := Ground.phase }, { on := 1, ground := Ground.phase }, { on := 2, ground := Ground.phase }, { on := 3, ground := Ground.phase }, { on := 4, ground := Ground.phase }, { on := 5, ground := Ground.phase }, { on := 6, ground := Ground.phase }, { on := 7, ground := Ground.phase }, { on := 8, ground := Ground.phase }, { on := 9, ground := Ground.phase }, { on := 10, ground := Ground.phase }, { on := 11, ground := Ground.phase }, { on := 12, ground := Ground.phase }, { on := 13, ground := Ground.phase }, { on := 14, ground := Ground.phase }, { on := 15, ground := Ground.phase }, { on := 16, ground := Ground.phase }, { on := 17, ground := Ground.phase }, { on := 18, ground := Ground.phase }, { on := 19, ground := Ground.phase }, { on := 20, ground := Ground.phase }, { on := 21, ground := Ground.phase }], guard := none }) (v := .bool false) rfl (by kernel_rfl) (by kernel_rfl) (by kernel_rfl) (fun _ _ _ h => h) (Or.inl ⟨by kernel_rfl, fun w hSw => ?_⟩) (by assumption) ?_
        · (try dsimp only at hSw); go_simp
        (try simp only [Act.put, List.setIfInBounds_toArray, List.set_cons_zero, List.set_cons_succ])
        refine wpAnyH_done (by kernel_rfl) ?_ _
        go_wp2_with fail
        go_ret
        exact ⟨by rw [hm.out]; rfl, hw2.out.trans (b23.mono hw2.out.size)⟩
    · have hemp' : ¬ (R.rl.length : Int) = 0 := by omega
      have hne : R.rl.isEmpty = false := by
        cases e : R.rl.isEmpty with
        | false => rfl
        | true => exact absurd (List.isEmpty_iff_length_eq_zero.1 e) hemp
      go_wp2_with fail
      refine C1.out.mono ?_
      rintro e V2 ⟨rfl, rfl⟩
      rename World => V
      cases hsp : isIn R.rl ta with
      | true =>
        have hspb : (R.rl.isEmpty || isIn R.rl ta) = true := by rw [hne, hsp]; rfl
        go_wp2_with fail
        refine C2.out.mono ?_
        rintro e w1 hsub
        rcases hsub with ⟨t, ht, nb, ms, rfl, hnb, hN, hmem, b1⟩ | ⟨ht, rfl, b1⟩
        · have b2 : Hid (Below V.heap.size V (w1.alloc (.cells #[.string ts, .float .f64 t, .map (some nb)] 66))) := b1.trans (((Below.refl _ _).alloc (Nat.le_refl _) _).mono b1.size)
          have g2 := heap_alloc_new w1 (.cells #[.string ts, .float .f64 t, .map (some nb)] 66)
          have hw2 : Hid (Below w.heap.size w (w1.alloc (.cells #[.string ts, .float .f64 t, .map (some nb)] 66))) := HbV.out.trans (b2.out.mono HbV.out.size)
          have hI2 := hide' (HI.out.below b2.out)
          have hN2 := hide' (hN.turn ((Turn.refl (fun _ => False) w1).alloc (.cells #[.string ts, .float .f64 t, .map (some nb)] 66)) id)
          obtain ⟨e0, e1, e2, e3, e4, e5, e6, e7, e8, e9, e10, e11, e12, e13, e14, e15, e16, e17, e18, e19⟩ := KS.out _ b2.out
          have u0 : (w1.alloc (.cells #[.string ts, .float .f64 t, .map (some nb)] 66)).cell? ⟨w1.heap.size, 0, none⟩ = some (.string ts) := by rw [Lib.cell_of_heap g2]; rfl
          have u1 : (w1.alloc (.cells #[.string ts, .float .f64 t, .map (some nb)] 66)).cell? ⟨w1.heap.size, 1, none⟩ = some (.float .f64 t) := by rw [Lib.cell_of_heap g2]; rfl
          have u2 : (w1.alloc (.cells #[.string ts, .float .f64 t, .map (some nb)] 66)).cell? ⟨w1.heap.size, 2, none⟩ = some (.map (some nb)) := by rw [Lib.cell_of_heap g2]; rfl
          have hpl := lt_of_heap g2
          have hbl := b2.out.size
          go_wp2_with fail
          clear g2
          generalize w1.heap.size = pb at *
          generalize w1.alloc (.cells #[.string ts, .float .f64 t, .map (some nb)] 66) = w2 at *
          have KT : Hid (∀ w', Below w2.heap.size w2 w' → w'.cell? ⟨q0, 0, none⟩ = some (.slice P.ao P.al.length P.ac) ∧ w'.cell? ⟨q0, 1, none⟩ = some (.slice P.so P.sl.length P.sc) ∧ w'.cell? ⟨q0, 2, none⟩ = some P.ro ∧ w'.cell? ⟨q0, 3, none⟩ = some (.slice P.oo P.ol.length P.oc) ∧ w'.cell? ⟨q0, 4, none⟩ = some P.gr ∧ w'.cell? ⟨q0, 5, none⟩ = some (.slice P.m.1 P.m.2.2.length P.m.2.1) ∧ w'.cell? ⟨q0, 6, none⟩ = some (.slice P.i.1 P.i.2.2.length P.i.2.1) ∧ w'.cell? ⟨q0, 7, none⟩ = some (.slice P.p.1 P.p.2.2.length P.p.2.1) ∧ w'.cell? ⟨q0, 8, none⟩ = some (.slice P.w.1 P.w.2.2.length P.w.2.1) ∧ w'.cell? ⟨q0, 9, none⟩ = some P.ru ∧ w'.cell? ⟨q0, 10, none⟩ = some P.ex ∧ w'.cell? ⟨q1, 0, none⟩ = some R.d ∧ w'.cell? ⟨q1, 1, none⟩ = some (.string R.who) ∧ w'.cell? ⟨q1, 2, none⟩ = some (.string R.what) ∧ w'.cell? ⟨q1, 3, none⟩ = some (.slice R.ro R.rl.length R.rc) ∧ w'.cell? ⟨q1, 4, none⟩ = some (.int .i8 R.cd) ∧ w'.cell? ⟨q1, 5, none⟩ = some (.float .f64 R.lv) ∧ w'.cell? ⟨q2, 0, none⟩ = some (.string ts) ∧ w'.cell? ⟨q2, 1, none⟩ = some (.string to) ∧ w'.cell? ⟨q2, 2, none⟩ = some (.string ta) ∧ w'.cell? ⟨pb, 0, none⟩ = some (.string ts) ∧ w'.cell? ⟨pb, 1, none⟩ = some (.float .f64 t) ∧ w'.cell? ⟨pb, 2, none⟩ = some (.map (some nb))) := fun w' b => ⟨(b.cell (p := ⟨q0, 0, none⟩) (Nat.lt_of_lt_of_le hlsH.out.1 hbl)).trans e0, (b.cell (p := ⟨q0, 1, none⟩) (Nat.lt_of_lt_of_le hlsH.out.1 hbl)).trans e1, (b.cell (p := ⟨q0, 2, none⟩) (Nat.lt_of_lt_of_le hlsH.out.1 hbl)).trans e2, (b.cell (p := ⟨q0, 3, none⟩) (Nat.lt_of_lt_of_le hlsH.out.1 hbl)).trans e3, (b.cell (p := ⟨q0, 4, none⟩) (Nat.lt_of_lt_of_le hlsH.out.1 hbl)).trans e4, (b.cell (p := ⟨q0, 5, none⟩) (Nat.lt_of_lt_of_le hlsH.out.1 hbl)).trans e5, (b.cell (p := ⟨q0, 6, none⟩) (Nat.lt_of_lt_of_le hlsH.out.1 hbl)).trans e6, (b.cell (p := ⟨q0, 7, none⟩) (Nat.lt_of_lt_of_le hlsH.out.1 hbl)).trans e7, (b.cell (p := ⟨q0, 8, none⟩) (Nat.lt_of_lt_of_le hlsH.out.1 hbl)).trans e8, (b.cell (p := ⟨q0, 9, none⟩) (Nat.lt_of_lt_of_le hlsH.out.1 hbl)).trans e9, (b.cell (p := ⟨q0, 10, none⟩) (Nat.lt_of_lt_of_le hlsH.out.1 hbl)).trans e10, (b.cell (p := ⟨q1, 0, none⟩) (Nat.lt_of_lt_of_le hlsH.out.2.1 hbl)).trans e11, (b.cell (p := ⟨q1, 1, none⟩) (Nat.lt_of_lt_of_le hlsH.out.2.1 hbl)).trans e12, (b.cell (p := ⟨q1, 2, none⟩) (Nat.lt_of_lt_of_le hlsH.out.2.1 hbl)).trans e13, (b.cell (p := ⟨q1, 3, none⟩) (Nat.lt_of_lt_of_le hlsH.out.2.1 hbl)).trans e14, (b.cell (p := ⟨q1, 4, none⟩) (Nat.lt_of_lt_of_le hlsH.out.2.1 hbl)).trans e15, (b.cell (p := ⟨q1, 5, none⟩) (Nat.lt_of_lt_of_le hlsH.out.2.1 hbl)).trans e16, (b.cell (p := ⟨q2, 0, none⟩) (Nat.lt_of_lt_of_le hlsH.out.2.2 hbl)).trans e17, (b.cell (p := ⟨q2, 1, none⟩) (Nat.lt_of_lt_of_le hlsH.out.2.2 hbl)).trans e18, (b.cell (p := ⟨q2, 2, none⟩) (Nat.lt_of_lt_of_le hlsH.out.2.2 hbl)).trans e19, (b.cell (p := ⟨pb, 0, none⟩) hpl).trans u0, (b.cell (p := ⟨pb, 1, none⟩) hpl).trans u1, (b.cell (p := ⟨pb, 2, none⟩) hpl).trans u2⟩
          have hd : Below w2.heap.size w2 w2.drew := ⟨rfl, rfl, rfl, Nat.le_refl _, fun _ _ => rfl⟩
          have hwh : isIn ms R.who = isIn (N.clo (P.m.2.2 ++ P.i.2.2) ts) R.who := isIn_iff hmem R.who
          have C47 : Hid (Calls Try.prog 47 #[.agg #[.string ts, .float .f64 t, .map (some nb)], .string R.who] w2.drew fun e w' => e = .returned (.bool (isIn ms R.who)) ∧ Below w2.drew.heap.size w2.drew w') := is_any _ _ _ _ _ _ (hN2.out.turn ((Turn.refl (fun _ => False) w2).drew) id) (okk_of hz.2.2.1)
          have C16 := hide' (fun v => M.passes_any R.d (.string R.who) (.string R.what) (.slice R.ro R.rl.length R.rc) R.cd R.lv t v)
          have hwH := hide' hwh
          have htH := hide' ht
          clear hN hmem hwh ht
          cases hwho : isIn ms R.who with
          | false =>
            rw [hwho] at C47
            have hm : Hid (mtc P R ts to ta = false) := by show _ = _; unfold mtc; rw [hact, hspb, htH.out]; simp only []; rw [← hwH.out, hwho]; simp
            refine wp_region_held_drew (S := fun w' => w'.cell? ⟨q0, 0, none⟩ = some (.slice P.ao P.al.length P.ac) ∧ w'.cell? ⟨q0, 1, none⟩ = some (.slice P.so P.sl.length P.sc) ∧ w'.cell? ⟨q0, 2, none⟩ = some P.ro ∧ w'.cell? ⟨q0, 3, none⟩ = some (.slice P.oo P.ol.length P.oc) ∧ w'.cell? ⟨q0, 4, none⟩ = some P.gr ∧ w'.cell? ⟨q0, 5, none⟩ = some (.slice P.m.1 P.m.2.2.length P.m.2.1) ∧ w'.cell? ⟨q0, 6, none⟩ = some (.slice P.i.1 P.i.2.2.length P.i.2.1) ∧ w'.cell? ⟨q0, 7, none⟩ = some (.slice P.p.1 P.p.2.2.length P.p.2.1) ∧ w'.cell? ⟨q0, 8, none⟩ = some (.slice P.w.1 P.w.2.2.length P.w.2.1) ∧ w'.cell? ⟨q0, 9, none⟩ = some P.ru ∧ w'.cell? ⟨q0, 10, none⟩ = some P.ex ∧ w'.cell? ⟨q1, 0, none⟩ = some R.d ∧ w'.cell? ⟨q1, 1, none⟩ = some (.string R.who) ∧ w'.cell? ⟨q1, 2, none⟩ = some (.string R.what) ∧ w'.cell? ⟨q1, 3, none⟩ = some (.slice R.ro R.rl.length R.rc) ∧ w'.cell? ⟨q1, 4, none⟩ = some (.int .i8 R.cd) ∧ w'.cell? ⟨q1, 5, none⟩ = some (.float .f64 R.lv) ∧ w'.cell? ⟨q2, 0, none⟩ = some (.string ts) ∧ w'.cell? ⟨q2, 1, none⟩ = some (.string to) ∧ w'.cell? ⟨q2, 2, none⟩ = some (.string ta) ∧ w'.cell? ⟨pb, 0, none⟩ = some (.string ts) ∧ w'.cell? ⟨pb, 1, none⟩ = some (.float .f64 t) ∧ w'.cell? ⟨pb, 2, none⟩ = some (.map (some nb))) (by kernel_rfl) (KT.out _ hd) (fun hHeld => ?_)
            refine wpAnyH_take (i := 0) (oi := { dst := some 30, op := Op.move (Operand.tmp 7), type := 4, pos := "mean.go:30", after := #[], guard := none }) (v := .bool true) rfl (by kernel_rfl) (by kernel_rfl) (by kernel_rfl) (fun _ _ _ h => h) (Or.inl ⟨by kernel_rfl, fun w hSw => ?_⟩) (by assumption) ?_
            · (try dsimp only at hSw); go_simp
            (try simp only [Act.put, List.setIfInBounds_toArray, List.set_cons_zero, List.set_cons_succ])
            refine wpAnyH_take (i := 1) (oi := { dst := some 31, op := Op.move (Operand.tmp 30), type := 4, pos := "mean.go:30", after := #[{ on := 0, ground := Ground.data }], guard := none }) (v := .bool true) rfl (by kernel_rfl) (by kernel_rfl) (by kernel_rfl) (fun _ _ _ h => h) (Or.inl ⟨by kernel_rfl, fun w hSw => ?_⟩) (by assumption) ?_
            · (try dsimp only at hSw); go_simp
            (try simp only [Act.put, List.setIfInBounds_toArray, List.set_cons_zero, List.set_cons_succ])
            refine wpAnyH_take (i := 2) (oi := { dst := some 32, op := Op.load 66 (Operand.tmp 8), type := 66, pos := "mean.go:30", after := #[{ on := 1, ground := Ground.guard }], guard := some (1, true) }) (v := .agg #[.string ts, .float .f64 t, .map (some nb)]) rfl (by kernel_rfl) (by kernel_rfl) (by kernel_rfl) (fun _ _ _ h => h) (Or.inl ⟨by kernel_rfl, fun w hSw => ?_⟩) (by assumption) ?_
            · (try dsimp only at hSw); go_simp
            (try simp only [Act.put, List.setIfInBounds_toArray, List.set_cons_zero, List.set_cons_succ])
            refine wpAnyH_take (i := 3) (oi := { dst := some 33, op := Op.fieldAddr 27 (Operand.tmp 4) 1, type := 0, pos := "mean.go:30", after := #[{ on := 1, ground := Ground.guard }], guard := some (1, true) }) (v := .pointer (some ⟨q1, 1, none⟩)) rfl (by kernel_rfl) (by kernel_rfl) (by kernel_rfl) (fun _ _ _ h => h) (Or.inl ⟨by kernel_rfl, fun w hSw => ?_⟩) (by assumption) ?_
            · (try dsimp only at hSw); go_simp
            (try simp only [Act.put, List.setIfInBounds_toArray, List.set_cons_zero, List.set_cons_succ])
            refine wpAnyH_take (i := 4) (oi := { dst := some 34, op := Op.load 9 (Operand.tmp 33), type := 9, pos := "mean.go:30", after := #[{ on := 3, ground := Ground.data }, { on := 1, ground := Ground.guard }], guard := some (1, true) }) (v := .string R.who) rfl (by kernel_rfl) (by kernel_rfl) (by kernel_rfl) (fun _ _ _ h => h) (Or.inl ⟨by kernel_rfl, fun w hSw => ?_⟩) (by assumption) ?_
            · (try dsimp only at hSw); go_simp
            (try simp only [Act.put, List.setIfInBounds_toArray, List.set_cons_zero, List.set_cons_succ])
            refine wpAnyH_ready (rs := [5]) (by kernel_rfl) (by simp) ?_
            refine AllReadyH.cons (o := { dst := some 35, op := Op.call { callee := Callee.value (Operand.func 47), args := #[Operand.tmp 32, Operand.tmp 34], argTypes := #[66, 9] }, type := 4, pos := "mean.go:30", after := #[{ on := 2, ground := Ground.data }, { on := 4, ground := Ground.data }, { on := 1, ground := Ground.chain }, { on := 1, ground := Ground.guard }], guard := some (1, true) }) rfl (fun K hK => ?_) AllReadyH.nil
            go_simp
            refine C47.out.mono ?_
            rintro e w3 ⟨rfl, b3⟩
            have b23 : Below w2.heap.size w2 w3 := ⟨b3.os, b3.tape, b3.output, b3.size, b3.block⟩
            clear b3
            (try dsimp only)
            refine hK.out _ _ (KT.out _ b23) (fun hHeld => ?_)
            clear hK K
            (try simp only [Act.put, List.setIfInBounds_toArray, List.set_cons_zero, List.set_cons_succ])
            refine wpAnyH_take (i := 6) (oi := { dst := some 36, op := Op.pick (Operand.tmp 31) (Operand.tmp 35) (Operand.const (Value.bool false)), type := 4, pos := "mean.go:30", after := #[{ on := 1, ground := Ground.data }, { on := 5, ground := Ground.data }], guard := none }) (v := .bool false) rfl (by kernel_rfl) (by kernel_rfl) (by kernel_rfl) (fun _ _ _ h => h) (Or.inl ⟨by kernel_rfl, fun w hSw => ?_⟩) (by assumption) ?_
            · (try dsimp only at hSw); go_simp
            (try simp only [Act.put, List.setIfInBounds_toArray, List.set_cons_zero, List.set_cons_succ])
            refine wpAnyH_take (i := 7) (oi := { dst := some 37, op := Op.move (Operand.tmp 36), type := 4, pos := "mean.go:30", after := #[{ on := 6, ground := Ground.data }, { on := 5, ground := Ground.chain }], guard := none }) (v := .bool false) rfl (by kernel_rfl) (by kernel_rfl) (by kernel_rfl) (fun _ _ _ h => h) (Or.inl ⟨by kernel_rfl, fun w hSw => ?_⟩) (by assumption) ?_
            · (try dsimp only at hSw); go_simp
            (try simp only [Act.put, List.setIfInBounds_toArray, List.set_cons_zero, List.set_cons_succ])
            refine wpAnyH_take (i := 8) (oi := { dst := some 38, op := Op.load 27 (Operand.tmp 4), type := 27, pos := "mean.go:30", after := #[{ on := 7, ground := Ground.guard }], guard := some (7, true) }) (v := undef) rfl (by kernel_rfl) (by kernel_rfl) (by kernel_rfl) (fun _ _ _ h => h) (Or.inr ⟨by kernel_rfl, rfl⟩) (by assumption) ?_
            (try simp only [Act.put, List.setIfInBounds_toArray, List.set_cons_zero, List.set_cons_succ])
            refine wpAnyH_take (i := 9) (oi := { dst := some 39, op := Op.fieldAddr 66 (Operand.tmp 8) 1, type := 0, pos := "mean.go:30", after := #[{ on := 7, ground := Ground.guard }], guard := some (7, true) }) (v := undef) rfl (by kernel_rfl) (by kernel_rfl) (by kernel_rfl) (fun _ _ _ h => h) (Or.inr ⟨by kernel_rfl, rfl⟩) (by assumption) ?_
            (try simp only [Act.put, List.setIfInBounds_toArray, List.set_cons_zero, List.set_cons_succ])
            refine wpAnyH_take (i := 10) (oi := { dst := some 40, op := Op.load 24 (Operand.tmp 39), type := 24, pos := "mean.go:30", after := #[{ on := 9, ground := Ground.data }, { on := 7, ground := Ground.guard }], guard := some (7, true) }) (v := undef) rfl (by kernel_rfl) (by kernel_rfl) (by kernel_rfl) (fun _ _ _ h => h) (Or.inr ⟨by kernel_rfl, rfl⟩) (by assumption) ?_
            (try simp only [Act.put, List.setIfInBounds_toArray, List.set_cons_zero, List.set_cons_succ])
            refine wpAnyH_take (i := 11) (oi := { dst := some 41, op := Op.call { callee := Callee.value (Operand.func 16), args := #[Operand.tmp 38, Operand.tmp 40], argTypes := #[27, 24] }, type := 4, pos := "mean.go:30", after := #[{ on := 8, ground := Ground.data }, { on := 10, ground := Ground.data }, { on := 7, ground := Ground.chain }, { on := 7, ground := Ground.guard }], guard := some (7, true) }) (v := undef) rfl (by kernel_rfl) (by kernel_rfl) (by kernel_rfl) (fun _ _ _ h => h) (Or.inr ⟨by kernel_rfl, rfl⟩) (by assumption) ?_
            (try simp only [Act.put, List.setIfInBounds_toArray, List.set_cons_zero, List.set_cons_succ])
            refine wpAnyH_take (i := 12) (oi := { dst := some 42, op := Op.pick (Operand.tmp 37) (Operand.tmp 41) (Operand.const (Value.bool false)), type := 4, pos := "mean.go:30", after := #[{ on := 7, ground := Ground.data }, { on := 11, ground := Ground.data }], guard := none }) (v := .bool false) rfl (by kernel_rfl) (by kernel_rfl) (by kernel_rfl) (fun _ _ _ h => h) (Or.inl ⟨by kernel_rfl, fun w hSw => ?_⟩) (by assumption) ?_
            · (try dsimp only at hSw); go_simp
            (try simp only [Act.put, List.setIfInBounds_toArray, List.set_cons_zero, List.set_cons_succ])
            refine wpAnyH_take (i := 13) (oi := { dst := some 43, op := Op.move (Operand.tmp 42), type := 4, pos := "mean.go:30", after := #[{ on := 12, ground := Ground.data }, { on := 11, ground := Ground.chain }], guard := none }) (v := .bool false) rfl (by kernel_rfl) (by kernel_rfl) (by kernel_rfl) (fun _ _ _ h => h) (Or.inl ⟨by kernel_rfl, fun w hSw => ?_⟩) (by assumption) ?_
            · (try dsimp only at hSw); go_simp
            (try simp only [Act.put, List.setIfInBounds_toArray, List.set_cons_zero, List.set_cons_succ])
            refine wpAnyH_take (i := 14) (oi := { dst := some 44, op := Op.load 34 (Operand.tmp 3), type := 34, pos := "mean.go:30", after := #[{ on := 13, ground := Ground.guard }], guard := some (13, true) }) (v := undef) rfl (by kernel_rfl) (by kernel_rfl) (by kernel_rfl) (fun _ _ _ h => h) (Or.inr ⟨by kernel_rfl, rfl⟩) (by assumption) ?_
            (try simp only [Act.put, List.setIfInBounds_toArray, List.set_cons_zero, List.set_cons_succ])
            refine wpAnyH_take (i := 15) (oi := { dst := some 45, op := Op.fieldAddr 36 (Operand.tmp 5) 1, type := 0, pos := "mean.go:30", after := #[{ on := 13, ground := Ground.guard }], guard := some (13, true) }) (v := undef) rfl (by kernel_rfl) (by kernel_rfl) (by kernel_rfl) (fun _ _ _ h => h) (Or.inr ⟨by kernel_rfl, rfl⟩) (by assumption) ?_
            (try simp only [Act.put, List.setIfInBounds_toArray, List.set_cons_zero, List.set_cons_succ])
            refine wpAnyH_take (i := 16) (oi := { dst := some 46, op := Op.load 9 (Operand.tmp 45), type := 9, pos := "mean.go:30", after := #[{ on := 15, ground := Ground.data }, { on := 13, ground := Ground.guard }], guard := some (13, true) }) (v := undef) rfl (by kernel_rfl) (by kernel_rfl) (by kernel_rfl) (fun _ _ _ h => h) (Or.inr ⟨by kernel_rfl, rfl⟩) (by assumption) ?_
            (try simp only [Act.put, List.setIfInBounds_toArray, List.set_cons_zero, List.set_cons_succ])
            refine wpAnyH_take (i := 17) (oi := { dst := some 47, op := Op.call { callee := Callee.value (Operand.func 48), args := #[Operand.tmp 44, Operand.tmp 46], argTypes := #[34, 9] }, type := 66, pos := "mean.go:30", after := #[{ on := 14, ground := Ground.data }, { on := 16, ground := Ground.data }, { on := 13, ground := Ground.chain }, { on := 13, ground := Ground.guard }], guard := some (13, true) }) (v := undef) rfl (by kernel_rfl) (by kernel_rfl) (by kernel_rfl) (fun _ _ _ h => h) (Or.inr ⟨by kernel_rfl, rfl⟩) (by assumption) ?_
            (try simp only [Act.put, List.setIfInBounds_toArray, List.set_cons_zero, List.set_cons_succ])
            refine wpAnyH_take (i := 18) (oi := { dst := some 48, op := Op.fieldAddr 27 (Operand.tmp 4) 2, type := 0, pos := "mean.go:30", after := #[{ on := 13, ground := Ground.guard }], guard := some (13, true) }) (v := undef) rfl (by kernel_rfl) (by kernel_rfl) (by kernel_rfl) (fun _ _ _ h => h) (Or.inr ⟨by kernel_rfl, rfl⟩) (by assumption) ?_
            (try simp only [Act.put, List.setIfInBounds_toArray, List.set_cons_zero, List.set_cons_succ])
            refine wpAnyH_take (i := 19) (oi := { dst := some 49, op := Op.load 9 (Operand.tmp 48), type := 9, pos := "mean.go:30", after := #[{ on := 18, ground := Ground.data }, { on := 13, ground := Ground.guard }], guard := some (13, true) }) (v := undef) rfl (by kernel_rfl) (by kernel_rfl) (by kernel_rfl) (fun _ _ _ h => h) (Or.inr ⟨by kernel_rfl, rfl⟩) (by assumption) ?_
            (try simp only [Act.put, List.setIfInBounds_toArray, List.set_cons_zero, List.set_cons_succ])
            refine wpAnyH_take (i := 20) (oi := { dst := some 50, op := Op.call { callee := Callee.value (Operand.func 47), args := #[Operand.tmp 47, Operand.tmp 49], argTypes := #[66, 9] }, type := 4, pos := "mean.go:30", after := #[{ on := 17, ground := Ground.data }, { on := 19, ground := Ground.data }, { on := 17, ground := Ground.chain }, { on := 13, ground := Ground.guard }], guard := some (13, true) }) (v := undef) rfl (by kernel_rfl) (by kernel_rfl) (by kernel_rfl) (fun _ _ _ h => h) (Or.inr ⟨by kernel_rfl, rfl⟩) (by assumption) ?_
            (try simp only [Act.put, List.setIfInBounds_toArray, List.set_cons_zero, List.set_cons_succ])
            refine wpAnyH_take (i := 21) (oi := { dst := some 51, op := Op.pick (Operand.tmp 43) (Operand.tmp 50) (Operand.const (Value.bool false)), type := 4, pos := "mean.go:30", after := #[{ on := 13, ground := Ground.data }, { on := 20, ground := Ground.data }], guard := none }) (v := .bool false) rfl (by kernel_rfl) (by kernel_rfl) (by kernel_rfl) (fun _ _ _ h => h) (Or.inl ⟨by kernel_rfl, fun w hSw => ?_⟩) (by assumption) ?_
            · (try dsimp only at hSw); go_simp
            (try simp only [Act.put, List.setIfInBounds_toArray, List.set_cons_zero, List.set_cons_succ])
            refine wpAnyH_take (i := 22) (oi := { dst := some 6, op := Op.assign (Operand.tmp 51), type := 4, pos := "mean.go:30", after := #[{ on := 21, ground := Ground.data }, { on := 20, ground := Ground.chain }, { on := 0, ground := Ground.phase }, { on := 1, ground := Ground.phase }, { on := 2, ground := Ground.phase }, { on := 3, ground := Ground.phase }, { on := 4, ground := Ground.phase }, { on := 5, ground := Ground.phase }, { on := 6, ground := Ground.phase }, { on := 7, ground := Ground.phase }, { on := 8, ground := Ground.phase }, { on := 9, ground := Ground.phase }, { on := 10, ground := Ground.phase }, { on := 11, ground := Ground.phase }, { on := 12, ground := Ground.phase }, { on := 13, ground := Ground.phase }, { on := 14, ground := Ground.phase }, { on := 15, ground := Ground.phase }, { on := 16, ground := Ground.phase }, { on := 17, ground := Ground.phase }, { on := 18, ground := Ground.phase }, { on := 19, ground := Ground.phase }, { on := 20, ground := Ground.phase }, { on := 21, ground := Ground.phase }], guard := none }) (v := .bool false) rfl (by kernel_rfl) (by kernel_rfl) (by kernel_rfl) (fun _ _ _ h => h) (Or.inl ⟨by kernel_rfl, fun w hSw => ?_⟩) (by assumption) ?_
            · (try dsimp only at hSw); go_simp
            (try simp only [Act.put, List.setIfInBounds_toArray, List.set_cons_zero, List.set_cons_succ])
            refine wpAnyH_done (by kernel_rfl) ?_ _
            go_wp2_with fail
            go_ret
            exact ⟨by rw [hm.out]; rfl, hw2.out.trans (b23.mono hw2.out.size)⟩
          | true =>
            rw [hwho] at C47
            cases hpass : M.pass R.cd R.lv t with
            | false =>
              rw [hpass] at C16
              have hm : Hid (mtc P R ts to ta = false) := by show _ = _; unfold mtc; rw [hact, hspb, htH.out]; simp only []; rw [hpass]; simp
              refine wp_region_held_drew (S := fun w' => w'.cell? ⟨q0, 0, none⟩ = some (.slice P.ao P.al.length P.ac) ∧ w'.cell? ⟨q0, 1, none⟩ = some (.slice P.so P.sl.length P.sc) ∧ w'.cell? ⟨q0, 2, none⟩ = some P.ro ∧ w'.cell? ⟨q0, 3, none⟩ = some (.slice P.oo P.ol.length P.oc) ∧ w'.cell? ⟨q0, 4, none⟩ = some P.gr ∧ w'.cell? ⟨q0, 5, none⟩ = some (.slice P.m.1 P.m.2.2.length P.m.2.1) ∧ w'.cell? ⟨q0, 6, none⟩ = some (.slice P.i.1 P.i.2.2.length P.i.2.1) ∧ w'.cell? ⟨q0, 7, none⟩ = some (.slice P.p.1 P.p.2.2.length P.p.2.1) ∧ w'.cell? ⟨q0, 8, none⟩ = some (.slice P.w.1 P.w.2.2.length P.w.2.1) ∧ w'.cell? ⟨q0, 9, none⟩ = some P.ru ∧ w'.cell? ⟨q0, 10, none⟩ = some P.ex ∧ w'.cell? ⟨q1, 0, none⟩ = some R.d ∧ w'.cell? ⟨q1, 1, none⟩ = some (.string R.who) ∧ w'.cell? ⟨q1, 2, none⟩ = some (.string R.what) ∧ w'.cell? ⟨q1, 3, none⟩ = some (.slice R.ro R.rl.length R.rc) ∧ w'.cell? ⟨q1, 4, none⟩ = some (.int .i8 R.cd) ∧ w'.cell? ⟨q1, 5, none⟩ = some (.float .f64 R.lv) ∧ w'.cell? ⟨q2, 0, none⟩ = some (.string ts) ∧ w'.cell? ⟨q2, 1, none⟩ = some (.string to) ∧ w'.cell? ⟨q2, 2, none⟩ = some (.string ta) ∧ w'.cell? ⟨pb, 0, none⟩ = some (.string ts) ∧ w'.cell? ⟨pb, 1, none⟩ = some (.float .f64 t) ∧ w'.cell? ⟨pb, 2, none⟩ = some (.map (some nb))) (by kernel_rfl) (KT.out _ hd) (fun hHeld => ?_)
              refine wpAnyH_take (i := 0) (oi := { dst := some 30, op := Op.move (Operand.tmp 7), type := 4, pos := "mean.go:30", after := #[], guard := none }) (v := .bool true) rfl (by kernel_rfl) (by kernel_rfl) (by kernel_rfl) (fun _ _ _ h => h) (Or.inl ⟨by kernel_rfl, fun w hSw => ?_⟩) (by assumption) ?_
              · (try dsimp only at hSw); go_simp
              (try simp only [Act.put, List.setIfInBounds_toArray, List.set_cons_zero, List.set_cons_succ])
              refine wpAnyH_take (i := 1) (oi := { dst := some 31, op := Op.move (Operand.tmp 30), type := 4, pos := "mean.go:30", after := #[{ on := 0, ground := Ground.data }], guard := none }) (v := .bool true) rfl (by kernel_rfl) (by kernel_rfl) (by kernel_rfl) (fun _ _ _ h => h) (Or.inl ⟨by kernel_rfl, fun w hSw => ?_⟩) (by assumption) ?_
              · (try dsimp only at hSw); go_simp
              (try simp only [Act.put, List.setIfInBounds_toArray, List.set_cons_zero, List.set_cons_succ])
              refine wpAnyH_take (i := 2) (oi := { dst := some 32, op := Op.load 66 (Operand.tmp 8), type := 66, pos := "mean.go:30", after := #[{ on := 1, ground := Ground.guard }], guard := some (1, true) }) (v := .agg #[.string ts, .float .f64 t, .map (some nb)]) rfl (by kernel_rfl) (by kernel_rfl) (by kernel_rfl) (fun _ _ _ h => h) (Or.inl ⟨by kernel_rfl, fun w hSw => ?_⟩) (by assumption) ?_
              · (try dsimp only at hSw); go_simp
              (try simp only [Act.put, List.setIfInBounds_toArray, List.set_cons_zero, List.set_cons_succ])
              refine wpAnyH_take (i := 3) (oi := { dst := some 33, op := Op.fieldAddr 27 (Operand.tmp 4) 1, type := 0, pos := "mean.go:30", after := #[{ on := 1, ground := Ground.guard }], guard := some (1, true) }) (v := .pointer (some ⟨q1, 1, none⟩)) rfl (by kernel_rfl) (by kernel_rfl) (by kernel_rfl) (fun _ _ _ h => h) (Or.inl ⟨by kernel_rfl, fun w hSw => ?_⟩) (by assumption) ?_
              · (try dsimp only at hSw); go_simp
              (try simp only [Act.put, List.setIfInBounds_toArray, List.set_cons_zero, List.set_cons_succ])
              refine wpAnyH_take (i := 4) (oi := { dst := some 34, op := Op.load 9 (Operand.tmp 33), type := 9, pos := "mean.go:30", after := #[{ on := 3, ground := Ground.data }, { on := 1, ground := Ground.guard }], guard := some (1, true) }) (v := .string R.who) rfl (by kernel_rfl) (by kernel_rfl) (by kernel_rfl) (fun _ _ _ h => h) (Or.inl ⟨by kernel_rfl, fun w hSw => ?_⟩) (by assumption) ?_
              · (try dsimp only at hSw); go_simp
              (try simp only [Act.put, List.setIfInBounds_toArray, List.set_cons_zero, List.set_cons_succ])
              refine wpAnyH_ready (rs := [5]) (by kernel_rfl) (by simp) ?_
              refine AllReadyH.cons (o := { dst := some 35, op := Op.call { callee := Callee.value (Operand.func 47), args := #[Operand.tmp 32, Operand.tmp 34], argTypes := #[66, 9] }, type := 4, pos := "mean.go:30", after := #[{ on := 2, ground := Ground.data }, { on := 4, ground := Ground.data }, { on := 1, ground := Ground.chain }, { on := 1, ground := Ground.guard }], guard := some (1, true) }) rfl (fun K hK => ?_) AllReadyH.nil
              go_simp
              refine C47.out.mono ?_
              rintro e w3 ⟨rfl, b3⟩
              have b23 : Below w2.heap.size w2 w3 := ⟨b3.os, b3.tape, b3.output, b3.size, b3.block⟩
              clear b3
              (try dsimp only)
              refine hK.out _ _ (KT.out _ b23) (fun hHeld => ?_)
              clear hK K
              (try simp only [Act.put, List.setIfInBounds_toArray, List.set_cons_zero, List.set_cons_succ])
              refine wpAnyH_take (i := 6) (oi := { dst := some 36, op := Op.pick (Operand.tmp 31) (Operand.tmp 35) (Operand.const (Value.bool false)), type := 4, pos := "mean.go:30", after := #[{ on := 1, ground := Ground.data }, { on := 5, ground := Ground.data }], guard := none }) (v := .bool true) rfl (by kernel_rfl) (by kernel_rfl) (by kernel_rfl) (fun _ _ _ h => h) (Or.inl ⟨by kernel_rfl, fun w hSw => ?_⟩) (by assumption) ?_
              · (try dsimp only at hSw); go_simp
              (try simp only [Act.put, List.setIfInBounds_toArray, List.set_cons_zero, List.set_cons_succ])
              refine wpAnyH_take (i := 7) (oi := { dst := some 37, op := Op.move (Operand.tmp 36), type := 4, pos := "mean.go:30", after := #[{ on := 6, ground := Ground.data }, { on := 5, ground := Ground.chain }], guard := none }) (v := .bool true) rfl (by kernel_rfl) (by kernel_rfl) (by kernel_rfl) (fun _ _ _ h => h) (Or.inl ⟨by kernel_rfl, fun w hSw => ?_⟩) (by assumption) ?_
              · (try dsimp only at hSw); go_simp
              (try simp only [Act.put, List.setIfInBounds_toArray, List.set_cons_zero, List.set_cons_succ])
              refine wpAnyH_take (i := 8) (oi := { dst := some 38, op := Op.load 27 (Operand.tmp 4), type := 27, pos := "mean.go:30", after := #[{ on := 7, ground := Ground.guard }], guard := some (7, true) }) (v := .agg #[R.d, .string R.who, .string R.what, .slice R.ro R.rl.length R.rc, .int .i8 R.cd, .float .f64 R.lv]) rfl (by kernel_rfl) (by kernel_rfl) (by kernel_rfl) (fun _ _ _ h => h) (Or.inl ⟨by kernel_rfl, fun w hSw => ?_⟩) (by assumption) ?_
              · (try dsimp only at hSw); go_simp
              (try simp only [Act.put, List.setIfInBounds_toArray, List.set_cons_zero, List.set_cons_succ])
              refine wpAnyH_take (i := 9) (oi := { dst := some 39, op := Op.fieldAddr 66 (Operand.tmp 8) 1, type := 0, pos := "mean.go:30", after := #[{ on := 7, ground := Ground.guard }], guard := some (7, true) }) (v := .pointer (some ⟨pb, 1, none⟩)) rfl (by kernel_rfl) (by kernel_rfl) (by kernel_rfl) (fun _ _ _ h => h) (Or.inl ⟨by kernel_rfl, fun w hSw => ?_⟩) (by assumption) ?_
              · (try dsimp only at hSw); go_simp
              (try simp only [Act.put, List.setIfInBounds_toArray, List.set_cons_zero, List.set_cons_succ])
              refine wpAnyH_take (i := 10) (oi := { dst := some 40, op := Op.load 24 (Operand.tmp 39), type := 24, pos := "mean.go:30", after := #[{ on := 9, ground := Ground.data }, { on := 7, ground := Ground.guard }], guard := some (7, true) }) (v := .float .f64 t) rfl (by kernel_rfl) (by kernel_rfl) (by kernel_rfl) (fun _ _ _ h => h) (Or.inl ⟨by kernel_rfl, fun w hSw => ?_⟩) (by assumption) ?_
              · (try dsimp only at hSw); go_simp
              (try simp only [Act.put, List.setIfInBounds_toArray, List.set_cons_zero, List.set_cons_succ])
              refine wpAnyH_ready (rs := [11]) (by kernel_rfl) (by simp) ?_
              refine AllReadyH.cons (o := { dst := some 41, op := Op.call { callee := Callee.value (Operand.func 16), args := #[Operand.tmp 38, Operand.tmp 40], argTypes := #[27, 24] }, type := 4, pos := "mean.go:30", after := #[{ on := 8, ground := Ground.data }, { on := 10, ground := Ground.data }, { on := 7, ground := Ground.chain }, { on := 7, ground := Ground.guard }], guard := some (7, true) }) rfl (fun K hK => ?_) AllReadyH.nil
              go_simp
              refine (C16.out w3).mono ?_
              rintro e w4 ⟨rfl, b4⟩
              have b24 : Below w2.heap.size w2 w4 := b23.trans (b4.mono b23.size)
              clear b4
              (try dsimp only)
              refine hK.out _ _ (KT.out _ b24) (fun hHeld => ?_)
              clear hK K
              (try simp only [Act.put, List.setIfInBounds_toArray, List.set_cons_zero, List.set_cons_succ])
              refine wpAnyH_take (i := 12) (oi := { dst := some 42, op := Op.pick (Operand.tmp 37) (Operand.tmp 41) (Operand.const (Value.bool false)), type := 4, pos := "mean.go:30", after := #[{ on := 7, ground := Ground.data }, { on := 11, ground := Ground.data }], guard := none }) (v := .bool false) rfl (by kernel_rfl) (by kernel_rfl) (by kernel_rfl) (fun _ _ _ h => h) (Or.inl ⟨by kernel_rfl, fun w hSw => ?_⟩) (by assumption) ?_
              · (try dsimp only at hSw); go_simp
              (try simp only [Act.put, List.setIfInBounds_toArray, List.set_cons_zero, List.set_cons_succ])
              refine wpAnyH_take (i := 13) (oi := { dst := some 43, op := Op.move (Operand.tmp 42), type := 4, pos := "mean.go:30", after := #[{ on := 12, ground := Ground.data }, { on := 11, ground := Ground.chain }], guard := none }) (v := .bool false) rfl (by kernel_rfl) (by kernel_rfl) (by kernel_rfl) (fun _ _ _ h => h) (Or.inl ⟨by kernel_rfl, fun w hSw => ?_⟩) (by assumption) ?_
              · (try dsimp only at hSw); go_simp
              (try simp only [Act.put, List.setIfInBounds_toArray, List.set_cons_zero, List.set_cons_succ])
              refine wpAnyH_take (i := 14) (oi := { dst := some 44, op := Op.load 34 (Operand.tmp 3), type := 34, pos := "mean.go:30", after := #[{ on := 13, ground := Ground.guard }], guard := some (13, true) }) (v := undef) rfl (by kernel_rfl) (by kernel_rfl) (by kernel_rfl) (fun _ _ _ h => h) (Or.inr ⟨by kernel_rfl, rfl⟩) (by assumption) ?_
              (try simp only [Act.put, List.setIfInBounds_toArray, List.set_cons_zero, List.set_cons_succ])
              refine wpAnyH_take (i := 15) (oi := { dst := some 45, op := Op.fieldAddr 36 (Operand.tmp 5) 1, type := 0, pos := "mean.go:30", after := #[{ on := 13, ground := Ground.guard }], guard := some (13, true) }) (v := undef) rfl (by kernel_rfl) (by kernel_rfl) (by kernel_rfl) (fun _ _ _ h => h) (Or.inr ⟨by kernel_rfl, rfl⟩) (by assumption) ?_
              (try simp only [Act.put, List.setIfInBounds_toArray, List.set_cons_zero, List.set_cons_succ])
              refine wpAnyH_take (i := 16) (oi := { dst := some 46, op := Op.load 9 (Operand.tmp 45), type := 9, pos := "mean.go:30", after := #[{ on := 15, ground := Ground.data }, { on := 13, ground := Ground.guard }], guard := some (13, true) }) (v := undef) rfl (by kernel_rfl) (by kernel_rfl) (by kernel_rfl) (fun _ _ _ h => h) (Or.inr ⟨by kernel_rfl, rfl⟩) (by assumption) ?_
              (try simp only [Act.put, List.setIfInBounds_toArray, List.set_cons_zero, List.set_cons_succ])
              refine wpAnyH_take (i := 17) (oi := { dst := some 47, op := Op.call { callee := Callee.value (Operand.func 48), args := #[Operand.tmp 44, Operand.tmp 46], argTypes := #[34, 9] }, type := 66, pos := "mean.go:30", after := #[{ on := 14, ground := Ground.data }, { on := 16, ground := Ground.data }, { on := 13, ground := Ground.chain }, { on := 13, ground := Ground.guard }], guard := some (13, true) }) (v := undef) rfl (by kernel_rfl) (by kernel_rfl) (by kernel_rfl) (fun _ _ _ h => h) (Or.inr ⟨by kernel_rfl, rfl⟩) (by assumption) ?_
              (try simp only [Act.put, List.setIfInBounds_toArray, List.set_cons_zero, List.set_cons_succ])
              refine wpAnyH_take (i := 18) (oi := { dst := some 48, op := Op.fieldAddr 27 (Operand.tmp 4) 2, type := 0, pos := "mean.go:30", after := #[{ on := 13, ground := Ground.guard }], guard := some (13, true) }) (v := undef) rfl (by kernel_rfl) (by kernel_rfl) (by kernel_rfl) (fun _ _ _ h => h) (Or.inr ⟨by kernel_rfl, rfl⟩) (by assumption) ?_
              (try simp only [Act.put, List.setIfInBounds_toArray, List.set_cons_zero, List.set_cons_succ])
              refine wpAnyH_take (i := 19) (oi := { dst := some 49, op := Op.load 9 (Operand.tmp 48), type := 9, pos := "mean.go:30", after := #[{ on := 18, ground := Ground.data }, { on := 13, ground := Ground.guard }], guard := some (13, true) }) (v := undef) rfl (by kernel_rfl) (by kernel_rfl) (by kernel_rfl) (fun _ _ _ h => h) (Or.inr ⟨by kernel_rfl, rfl⟩) (by assumption) ?_
              (try simp only [Act.put, List.setIfInBounds_toArray, List.set_cons_zero, List.set_cons_succ])
              refine wpAnyH_take (i := 20) (oi := { dst := some 50, op := Op.call { callee := Callee.value (Operand.func 47), args := #[Operand.tmp 47, Operand.tmp 49], argTypes := #[66, 9] }, type := 4, pos := "mean.go:30", after := #[{ on := 17, ground := Ground.data }, { on := 19, ground := Ground.data }, { on := 17, ground := Ground.chain }, { on := 13, ground := Ground.guard }], guard := some (13, true) }) (v := undef) rfl (by kernel_rfl) (by kernel_rfl) (by kernel_rfl) (fun _ _ _ h => h) (Or.inr ⟨by kernel_rfl, rfl⟩) (by assumption) ?_
              (try simp only [Act.put, List.setIfInBounds_toArray, List.set_cons_zero, List.set_cons_succ])
              refine wpAnyH_take (i := 21) (oi := { dst := some 51, op := Op.pick (Operand.tmp 43) (Operand.tmp 50) (Operand.const (Value.bool false)), type := 4, pos := "mean.go:30", after := #[{ on := 13, ground := Ground.data }, { on := 20, ground := Ground.data }], guard := none }) (v := .bool false) rfl (by kernel_rfl) (by kernel_rfl) (by kernel_rfl) (fun _ _ _ h => h) (Or.inl ⟨by kernel_rfl, fun w hSw => ?_⟩) (by assumption) ?_
              · (try dsimp only at hSw); go_simp
              (try simp only [Act.put, List.setIfInBounds_toArray, List.set_cons_zero, List.set_cons_succ])
              refine wpAnyH_take (i := 22) (oi := { dst := some 6, op := Op.assign (Operand.tmp 51), type := 4, pos := "mean.go:30", after := #[{ on := 21, ground := Ground.data }, { on := 20, ground := Ground.chain }, { on := 0, ground := Ground.phase }, { on := 1, ground := Ground.phase }, { on := 2, ground := Ground.phase }, { on := 3, ground := Ground.phase }, { on := 4, ground := Ground.phase }, { on := 5, ground := Ground.phase }, { on := 6, ground := Ground.phase }, { on := 7, ground := Ground.phase }, { on := 8, ground := Ground.phase }, { on := 9, ground := Ground.phase }, { on := 10, ground := Ground.phase }, { on := 11, ground := Ground.phase }, { on := 12, ground := Ground.phase }, { on := 13, ground := Ground.phase }, { on := 14, ground := Ground.phase }, { on := 15, ground := Ground.phase }, { on := 16, ground := Ground.phase }, { on := 17, ground := Ground.phase }, { on := 18, ground := Ground.phase }, { on := 19, ground := Ground.phase }, { on := 20, ground := Ground.phase }, { on := 21, ground := Ground.phase }], guard := none }) (v := .bool false) rfl (by kernel_rfl) (by kernel_rfl) (by kernel_rfl) (fun _ _ _ h => h) (Or.inl ⟨by kernel_rfl, fun w hSw => ?_⟩) (by assumption) ?_
              · (try dsimp only at hSw); go_simp
              (try simp only [Act.put, List.setIfInBounds_toArray, List.set_cons_zero, List.set_cons_succ])
              refine wpAnyH_done (by kernel_rfl) ?_ _
              go_wp2_with fail
              go_ret
              exact ⟨by rw [hm.out]; rfl, hw2.out.trans (b24.mono hw2.out.size)⟩
            | true =>
              rw [hpass] at C16
              have C48a := hide' (fun v (b : Below w2.heap.size w2 v) => objectOf_any P to v (hI2.out.below b) Hs.out hz.2.1)
              rw [hPv.out] at C48a
              cases hobj : isIn P.ol to with
              | false =>
                have C48 : Hid (∀ v, Below w2.heap.size w2 v → Calls Try.prog 48 #[.agg #[.slice P.ao P.al.length P.ac, .slice P.so P.sl.length P.sc, P.ro, .slice P.oo P.ol.length P.oc, P.gr, .slice P.m.1 P.m.2.2.length P.m.2.1, .slice P.i.1 P.i.2.2.length P.i.2.1, .slice P.p.1 P.p.2.2.length P.p.2.1, .slice P.w.1 P.w.2.2.length P.w.2.1, P.ru, P.ex], .string to] v fun e w' => e = .returned (.agg #[.string ⟨#[]⟩, .float .f64 0, .map none]) ∧ Below v.heap.size v w') := fun v b => (C48a.out v b).mono fun e w' q => by
                  rcases q with ⟨q, _⟩ | ⟨_, q1, q2⟩
                  · rw [hobj] at q; cases q
                  · exact ⟨q1, q2⟩
                have hm : Hid (mtc P R ts to ta = false) := by show _ = _; unfold mtc; rw [hobj]; simp
                refine wp_region_held_drew (S := fun w' => w'.cell? ⟨q0, 0, none⟩ = some (.slice P.ao P.al.length P.ac) ∧ w'.cell? ⟨q0, 1, none⟩ = some (.slice P.so P.sl.length P.sc) ∧ w'.cell? ⟨q0, 2, none⟩ = some P.ro ∧ w'.cell? ⟨q0, 3, none⟩ = some (.slice P.oo P.ol.length P.oc) ∧ w'.cell? ⟨q0, 4, none⟩ = some P.gr ∧ w'.cell? ⟨q0, 5, none⟩ = some (.slice P.m.1 P.m.2.2.length P.m.2.1) ∧ w'.cell? ⟨q0, 6, none⟩ = some (.slice P.i.1 P.i.2.2.length P.i.2.1) ∧ w'.cell? ⟨q0, 7, none⟩ = some (.slice P.p.1 P.p.2.2.length P.p.2.1) ∧ w'.cell? ⟨q0, 8, none⟩ = some (.slice P.w.1 P.w.2.2.length P.w.2.1) ∧ w'.cell? ⟨q0, 9, none⟩ = some P.ru ∧ w'.cell? ⟨q0, 10, none⟩ = some P.ex ∧ w'.cell? ⟨q1, 0, none⟩ = some R.d ∧ w'.cell? ⟨q1, 1, none⟩ = some (.string R.who) ∧ w'.cell? ⟨q1, 2, none⟩ = some (.string R.what) ∧ w'.cell? ⟨q1, 3, none⟩ = some (.slice R.ro R.rl.length R.rc) ∧ w'.cell? ⟨q1, 4, none⟩ = some (.int .i8 R.cd) ∧ w'.cell? ⟨q1, 5, none⟩ = some (.float .f64 R.lv) ∧ w'.cell? ⟨q2, 0, none⟩ = some (.string ts) ∧ w'.cell? ⟨q2, 1, none⟩ = some (.string to) ∧ w'.cell? ⟨q2, 2, none⟩ = some (.string ta) ∧ w'.cell? ⟨pb, 0, none⟩ = some (.string ts) ∧ w'.cell? ⟨pb, 1, none⟩ = some (.float .f64 t) ∧ w'.cell? ⟨pb, 2, none⟩ = some (.map (some nb))) (by kernel_rfl) (KT.out _ hd) (fun hHeld => ?_)
                refine wpAnyH_take (i := 0) (oi := { dst := some 30, op := Op.move (Operand.tmp 7), type := 4, pos := "mean.go:30", after := #[], guard := none }) (v := .bool true) rfl (by kernel_rfl) (by kernel_rfl) (by kernel_rfl) (fun _ _ _ h => h) (Or.inl ⟨by kernel_rfl, fun w hSw => ?_⟩) (by assumption) ?_
                · (try dsimp only at hSw); go_simp
                (try simp only [Act.put, List.setIfInBounds_toArray, List.set_cons_zero, List.set_cons_succ])
                refine wpAnyH_take (i := 1) (oi := { dst := some 31, op := Op.move (Operand.tmp 30), type := 4, pos := "mean.go:30", after := #[{ on := 0, ground := Ground.data }], guard := none }) (v := .bool true) rfl (by kernel_rfl) (by kernel_rfl) (by kernel_rfl) (fun _ _ _ h => h) (Or.inl ⟨by kernel_rfl, fun w hSw => ?_⟩) (by assumption) ?_
                · (try dsimp only at hSw); go_simp
                (try simp only [Act.put, List.setIfInBounds_toArray, List.set_cons_zero, List.set_cons_succ])
                refine wpAnyH_take (i := 2) (oi := { dst := some 32, op := Op.load 66 (Operand.tmp 8), type := 66, pos := "mean.go:30", after := #[{ on := 1, ground := Ground.guard }], guard := some (1, true) }) (v := .agg #[.string ts, .float .f64 t, .map (some nb)]) rfl (by kernel_rfl) (by kernel_rfl) (by kernel_rfl) (fun _ _ _ h => h) (Or.inl ⟨by kernel_rfl, fun w hSw => ?_⟩) (by assumption) ?_
                · (try dsimp only at hSw); go_simp
                (try simp only [Act.put, List.setIfInBounds_toArray, List.set_cons_zero, List.set_cons_succ])
                refine wpAnyH_take (i := 3) (oi := { dst := some 33, op := Op.fieldAddr 27 (Operand.tmp 4) 1, type := 0, pos := "mean.go:30", after := #[{ on := 1, ground := Ground.guard }], guard := some (1, true) }) (v := .pointer (some ⟨q1, 1, none⟩)) rfl (by kernel_rfl) (by kernel_rfl) (by kernel_rfl) (fun _ _ _ h => h) (Or.inl ⟨by kernel_rfl, fun w hSw => ?_⟩) (by assumption) ?_
                · (try dsimp only at hSw); go_simp
                (try simp only [Act.put, List.setIfInBounds_toArray, List.set_cons_zero, List.set_cons_succ])
                refine wpAnyH_take (i := 4) (oi := { dst := some 34, op := Op.load 9 (Operand.tmp 33), type := 9, pos := "mean.go:30", after := #[{ on := 3, ground := Ground.data }, { on := 1, ground := Ground.guard }], guard := some (1, true) }) (v := .string R.who) rfl (by kernel_rfl) (by kernel_rfl) (by kernel_rfl) (fun _ _ _ h => h) (Or.inl ⟨by kernel_rfl, fun w hSw => ?_⟩) (by assumption) ?_
                · (try dsimp only at hSw); go_simp
                (try simp only [Act.put, List.setIfInBounds_toArray, List.set_cons_zero, List.set_cons_succ])
                refine wpAnyH_ready (rs := [5]) (by kernel_rfl) (by simp) ?_
                refine AllReadyH.cons (o := { dst := some 35, op := Op.call { callee := Callee.value (Operand.func 47), args := #[Operand.tmp 32, Operand.tmp 34], argTypes := #[66, 9] }, type := 4, pos := "mean.go:30", after := #[{ on := 2, ground := Ground.data }, { on := 4, ground := Ground.data }, { on := 1, ground := Ground.chain }, { on := 1, ground := Ground.guard }], guard := some (1, true) }) rfl (fun K hK => ?_) AllReadyH.nil
                go_simp
                refine C47.out.mono ?_
                rintro e w3 ⟨rfl, b3⟩
                have b23 : Below w2.heap.size w2 w3 := ⟨b3.os, b3.tape, b3.output, b3.size, b3.block⟩
                clear b3
                (try dsimp only)
                refine hK.out _ _ (KT.out _ b23) (fun hHeld => ?_)
                clear hK K
                (try simp only [Act.put, List.setIfInBounds_toArray, List.set_cons_zero, List.set_cons_succ])
                refine wpAnyH_take (i := 6) (oi := { dst := some 36, op := Op.pick (Operand.tmp 31) (Operand.tmp 35) (Operand.const (Value.bool false)), type := 4, pos := "mean.go:30", after := #[{ on := 1, ground := Ground.data }, { on := 5, ground := Ground.data }], guard := none }) (v := .bool true) rfl (by kernel_rfl) (by kernel_rfl) (by kernel_rfl) (fun _ _ _ h => h) (Or.inl ⟨by kernel_rfl, fun w hSw => ?_⟩) (by assumption) ?_
                · (try dsimp only at hSw); go_simp
                (try simp only [Act.put, List.setIfInBounds_toArray, List.set_cons_zero, List.set_cons_succ])
                refine wpAnyH_take (i := 7) (oi := { dst := some 37, op := Op.move (Operand.tmp 36), type := 4, pos := "mean.go:30", after := #[{ on := 6, ground := Ground.data }, { on := 5, ground := Ground.chain }], guard := none }) (v := .bool true) rfl (by kernel_rfl) (by kernel_rfl) (by kernel_rfl) (fun _ _ _ h => h) (Or.inl ⟨by kernel_rfl, fun w hSw => ?_⟩) (by assumption) ?_
                · (try dsimp only at hSw); go_simp
                (try simp only [Act.put, List.setIfInBounds_toArray, List.set_cons_zero, List.set_cons_succ])
                refine wpAnyH_take (i := 8) (oi := { dst := some 38, op := Op.load 27 (Operand.tmp 4), type := 27, pos := "mean.go:30", after := #[{ on := 7, ground := Ground.guard }], guard := some (7, true) }) (v := .agg #[R.d, .string R.who, .string R.what, .slice R.ro R.rl.length R.rc, .int .i8 R.cd, .float .f64 R.lv]) rfl (by kernel_rfl) (by kernel_rfl) (by kernel_rfl) (fun _ _ _ h => h) (Or.inl ⟨by kernel_rfl, fun w hSw => ?_⟩) (by assumption) ?_
                · (try dsimp only at hSw); go_simp
                (try simp only [Act.put, List.setIfInBounds_toArray, List.set_cons_zero, List.set_cons_succ])
                refine wpAnyH_take (i := 9) (oi := { dst := some 39, op := Op.fieldAddr 66 (Operand.tmp 8) 1, type := 0, pos := "mean.go:30", after := #[{ on := 7, ground := Ground.guard }], guard := some (7, true) }) (v := .pointer (some ⟨pb, 1, none⟩)) rfl (by kernel_rfl) (by kernel_rfl) (by kernel_rfl) (fun _ _ _ h => h) (Or.inl ⟨by kernel_rfl, fun w hSw => ?_⟩) (by assumption) ?_
                · (try dsimp only at hSw); go_simp
                (try simp only [Act.put, List.setIfInBounds_toArray, List.set_cons_zero, List.set_cons_succ])
                refine wpAnyH_take (i := 10) (oi := { dst := some 40, op := Op.load 24 (Operand.tmp 39), type := 24, pos := "mean.go:30", after := #[{ on := 9, ground := Ground.data }, { on := 7, ground := Ground.guard }], guard := some (7, true) }) (v := .float .f64 t) rfl (by kernel_rfl) (by kernel_rfl) (by kernel_rfl) (fun _ _ _ h => h) (Or.inl ⟨by kernel_rfl, fun w hSw => ?_⟩) (by assumption) ?_
                · (try dsimp only at hSw); go_simp
                (try simp only [Act.put, List.setIfInBounds_toArray, List.set_cons_zero, List.set_cons_succ])
                refine wpAnyH_ready (rs := [11]) (by kernel_rfl) (by simp) ?_
                refine AllReadyH.cons (o := { dst := some 41, op := Op.call { callee := Callee.value (Operand.func 16), args := #[Operand.tmp 38, Operand.tmp 40], argTypes := #[27, 24] }, type := 4, pos := "mean.go:30", after := #[{ on := 8, ground := Ground.data }, { on := 10, ground := Ground.data }, { on := 7, ground := Ground.chain }, { on := 7, ground := Ground.guard }], guard := some (7, true) }) rfl (fun K hK => ?_) AllReadyH.nil
                go_simp
                refine (C16.out w3).mono ?_
                rintro e w4 ⟨rfl, b4⟩
                have b24 : Below w2.heap.size w2 w4 := b23.trans (b4.mono b23.size)
                clear b4
                (try dsimp only)
                refine hK.out _ _ (KT.out _ b24) (fun hHeld => ?_)
                clear hK K
                (try simp only [Act.put, List.setIfInBounds_toArray, List.set_cons_zero, List.set_cons_succ])
                refine wpAnyH_take (i := 12) (oi := { dst := some 42, op := Op.pick (Operand.tmp 37) (Operand.tmp 41) (Operand.const (Value.bool false)), type := 4, pos := "mean.go:30", after := #[{ on := 7, ground := Ground.data }, { on := 11, ground := Ground.data }], guard := none }) (v := .bool true) rfl (by kernel_rfl) (by kernel_rfl) (by kernel_rfl) (fun _ _ _ h => h) (Or.inl ⟨by kernel_rfl, fun w hSw => ?_⟩) (by assumption) ?_
                · (try dsimp only at hSw); go_simp
                (try simp only [Act.put, List.setIfInBounds_toArray, List.set_cons_zero, List.set_cons_succ])
                refine wpAnyH_take (i := 13) (oi := { dst := some 43, op := Op.move (Operand.tmp 42), type := 4, pos := "mean.go:30", after := #[{ on := 12, ground := Ground.data }, { on := 11, ground := Ground.chain }], guard := none }) (v := .bool true) rfl (by kernel_rfl) (by kernel_rfl) (by kernel_rfl) (fun _ _ _ h => h) (Or.inl ⟨by kernel_rfl, fun w hSw => ?_⟩) (by assumption) ?_
                · (try dsimp only at hSw); go_simp
                (try simp only [Act.put, List.setIfInBounds_toArray, List.set_cons_zero, List.set_cons_succ])
                refine wpAnyH_take (i := 14) (oi := { dst := some 44, op := Op.load 34 (Operand.tmp 3), type := 34, pos := "mean.go:30", after := #[{ on := 13, ground := Ground.guard }], guard := some (13, true) }) (v := .agg #[.slice P.ao P.al.length P.ac, .slice P.so P.sl.length P.sc, P.ro, .slice P.oo P.ol.length P.oc, P.gr, .slice P.m.1 P.m.2.2.length P.m.2.1, .slice P.i.1 P.i.2.2.length P.i.2.1, .slice P.p.1 P.p.2.2.length P.p.2.1, .slice P.w.1 P.w.2.2.length P.w.2.1, P.ru, P.ex]) rfl (by kernel_rfl) (by kernel_rfl) (by kernel_rfl) (fun _ _ _ h => h) (Or.inl ⟨by kernel_rfl, fun w hSw => ?_⟩) (by assumption) ?_
                · (try dsimp only at hSw); go_simp
                (try simp only [Act.put, List.setIfInBounds_toArray, List.set_cons_zero, List.set_cons_succ])
                refine wpAnyH_take (i := 15) (oi := { dst := some 45, op := Op.fieldAddr 36 (Operand.tmp 5) 1, type := 0, pos := "mean.go:30", after := #[{ on := 13, ground := Ground.guard }], guard := some (13, true) }) (v := .pointer (some ⟨q2, 1, none⟩)) rfl (by kernel_rfl) (by kernel_rfl) (by kernel_rfl) (fun _ _ _ h => h) (Or.inl ⟨by kernel_rfl, fun w hSw => ?_⟩) (by assumption) ?_
                · (try dsimp only at hSw); go_simp
                (try simp only [Act.put, List.setIfInBounds_toArray, List.set_cons_zero, List.set_cons_succ])
                refine wpAnyH_take (i := 16) (oi := { dst := some 46, op := Op.load 9 (Operand.tmp 45), type := 9, pos := "mean.go:30", after := #[{ on := 15, ground := Ground.data }, { on := 13, ground := Ground.guard }], guard := some (13, true) }) (v := .string to) rfl (by kernel_rfl) (by kernel_rfl) (by kernel_rfl) (fun _ _ _ h => h) (Or.inl ⟨by kernel_rfl, fun w hSw => ?_⟩) (by assumption) ?_
                · (try dsimp only at hSw); go_simp
                (try simp only [Act.put, List.setIfInBounds_toArray, List.set_cons_zero, List.set_cons_succ])
                refine wpAnyH_take (i := 18) (oi := { dst := some 48, op := Op.fieldAddr 27 (Operand.tmp 4) 2, type := 0, pos := "mean.go:30", after := #[{ on := 13, ground := Ground.guard }], guard := some (13, true) }) (v := .pointer (some ⟨q1, 2, none⟩)) rfl (by kernel_rfl) (by kernel_rfl) (by kernel_rfl) (fun _ _ _ h => h) (Or.inl ⟨by kernel_rfl, fun w hSw => ?_⟩) (by assumption) ?_
                · (try dsimp only at hSw); go_simp
                (try simp only [Act.put, List.setIfInBounds_toArray, List.set_cons_zero, List.set_cons_succ])
                refine wpAnyH_take (i := 19) (oi := { dst := some 49, op := Op.load 9 (Operand.tmp 48), type := 9, pos := "mean.go:30", after := #[{ on := 18, ground := Ground.data }, { on := 13, ground := Ground.guard }], guard := some (13, true) }) (v := .string R.what) rfl (by kernel_rfl) (by kernel_rfl) (by kernel_rfl) (fun _ _ _ h => h) (Or.inl ⟨by kernel_rfl, fun w hSw => ?_⟩) (by assumption) ?_
                · (try dsimp only at hSw); go_simp
                (try simp only [Act.put, List.setIfInBounds_toArray, List.set_cons_zero, List.set_cons_succ])
                refine wpAnyH_ready (rs := [17]) (by kernel_rfl) (by simp) ?_
                refine AllReadyH.cons (o := { dst := some 47, op := Op.call { callee := Callee.value (Operand.func 48), args := #[Operand.tmp 44, Operand.tmp 46], argTypes := #[34, 9] }, type := 66, pos := "mean.go:30", after := #[{ on := 14, ground := Ground.data }, { on := 16, ground := Ground.data }, { on := 13, ground := Ground.chain }, { on := 13, ground := Ground.guard }], guard := some (13, true) }) rfl (fun K hK => ?_) AllReadyH.nil
                go_simp
                refine (C48.out w4 b24).mono ?_
                rintro e w5 ⟨rfl, b5⟩
                have b25 : Below w2.heap.size w2 w5 := b24.trans (b5.mono b24.size)
                clear b5
                (try dsimp only)
                refine hK.out _ _ (KT.out _ b25) (fun hHeld => ?_)
                clear hK K
                (try simp only [Act.put, List.setIfInBounds_toArray, List.set_cons_zero, List.set_cons_succ])
                refine wpAnyH_ready (rs := [20]) (by kernel_rfl) (by simp) ?_
                refine AllReadyH.cons (o := { dst := some 50, op := Op.call { callee := Callee.value (Operand.func 47), args := #[Operand.tmp 47, Operand.tmp 49], argTypes := #[66, 9] }, type := 4, pos := "mean.go:30", after := #[{ on := 17, ground := Ground.data }, { on := 19, ground := Ground.data }, { on := 17, ground := Ground.chain }, { on := 13, ground := Ground.guard }], guard := some (13, true) }) rfl (fun K hK => ?_) AllReadyH.nil
                go_simp
                refine (is_none _ _ _ _ (okk_of hz.2.2.2.1)).mono ?_
                rintro e w6 ⟨rfl, b6⟩
                have b26 : Below w2.heap.size w2 w6 := b25.trans (b6.mono b25.size)
                clear b6
                (try dsimp only)
                refine hK.out _ _ (KT.out _ b26) (fun hHeld => ?_)
                clear hK K
                (try simp only [Act.put, List.setIfInBounds_toArray, List.set_cons_zero, List.set_cons_succ])
                refine wpAnyH_take (i := 21) (oi := { dst := some 51, op := Op.pick (Operand.tmp 43) (Operand.tmp 50) (Operand.const (Value.bool false)), type := 4, pos := "mean.go:30", after := #[{ on := 13, ground := Ground.data }, { on := 20, ground := Ground.data }], guard := none }) (v := .bool false) rfl (by kernel_rfl) (by kernel_rfl) (by kernel_rfl) (fun _ _ _ h => h) (Or.inl ⟨by kernel_rfl, fun w hSw => ?_⟩) (by assumption) ?_
                · (try dsimp only at hSw); go_simp
                (try simp only [Act.put, List.setIfInBounds_toArray, List.set_cons_zero, List.set_cons_succ])
                refine wpAnyH_take (i := 22) (oi := { dst := some 6, op := Op.assign (Operand.tmp 51), type := 4, pos := "mean.go:30", after := #[{ on := 21, ground := Ground.data }, { on := 20, ground := Ground.chain }, { on := 0, ground := Ground.phase }, { on := 1, ground := Ground.phase }, { on := 2, ground := Ground.phase }, { on := 3, ground := Ground.phase }, { on := 4, ground := Ground.phase }, { on := 5, ground := Ground.phase }, { on := 6, ground := Ground.phase }, { on := 7, ground := Ground.phase }, { on := 8, ground := Ground.phase }, { on := 9, ground := Ground.phase }, { on := 10, ground := Ground.phase }, { on := 11, ground := Ground.phase }, { on := 12, ground := Ground.phase }, { on := 13, ground := Ground.phase }, { on := 14, ground := Ground.phase }, { on := 15, ground := Ground.phase }, { on := 16, ground := Ground.phase }, { on := 17, ground := Ground.phase }, { on := 18, ground := Ground.phase }, { on := 19, ground := Ground.phase }, { on := 20, ground := Ground.phase }, { on := 21, ground := Ground.phase }], guard := none }) (v := .bool false) rfl (by kernel_rfl) (by kernel_rfl) (by kernel_rfl) (fun _ _ _ h => h) (Or.inl ⟨by kernel_rfl, fun w hSw => ?_⟩) (by assumption) ?_
                · (try dsimp only at hSw); go_simp
                (try simp only [Act.put, List.setIfInBounds_toArray, List.set_cons_zero, List.set_cons_succ])
                refine wpAnyH_done (by kernel_rfl) ?_ _
                go_wp2_with fail
                go_ret
                exact ⟨by rw [hm.out]; rfl, hw2.out.trans (b26.mono hw2.out.size)⟩
              | true =>
                have C48 : Hid (∀ v, Below w2.heap.size w2 v → Calls Try.prog 48 #[.agg #[.slice P.ao P.al.length P.ac, .slice P.so P.sl.length P.sc, P.ro, .slice P.oo P.ol.length P.oc, P.gr, .slice P.m.1 P.m.2.2.length P.m.2.1, .slice P.i.1 P.i.2.2.length P.i.2.1, .slice P.p.1 P.p.2.2.length P.p.2.1, .slice P.w.1 P.w.2.2.length P.w.2.1, P.ru, P.ex], .string to] v fun e w' => PartyIs (P.p.2.2 ++ P.w.2.2) to 0 v e w') := fun v b => (C48a.out v b).mono fun e w' q => by
                  rcases q with ⟨_, q⟩ | ⟨q, _, _⟩
                  · exact q
                  · rw [hobj] at q; cases q
                refine wp_region_held_drew (S := fun w' => w'.cell? ⟨q0, 0, none⟩ = some (.slice P.ao P.al.length P.ac) ∧ w'.cell? ⟨q0, 1, none⟩ = some (.slice P.so P.sl.length P.sc) ∧ w'.cell? ⟨q0, 2, none⟩ = some P.ro ∧ w'.cell? ⟨q0, 3, none⟩ = some (.slice P.oo P.ol.length P.oc) ∧ w'.cell? ⟨q0, 4, none⟩ = some P.gr ∧ w'.cell? ⟨q0, 5, none⟩ = some (.slice P.m.1 P.m.2.2.length P.m.2.1) ∧ w'.cell? ⟨q0, 6, none⟩ = some (.slice P.i.1 P.i.2.2.length P.i.2.1) ∧ w'.cell? ⟨q0, 7, none⟩ = some (.slice P.p.1 P.p.2.2.length P.p.2.1) ∧ w'.cell? ⟨q0, 8, none⟩ = some (.slice P.w.1 P.w.2.2.length P.w.2.1) ∧ w'.cell? ⟨q0, 9, none⟩ = some P.ru ∧ w'.cell? ⟨q0, 10, none⟩ = some P.ex ∧ w'.cell? ⟨q1, 0, none⟩ = some R.d ∧ w'.cell? ⟨q1, 1, none⟩ = some (.string R.who) ∧ w'.cell? ⟨q1, 2, none⟩ = some (.string R.what) ∧ w'.cell? ⟨q1, 3, none⟩ = some (.slice R.ro R.rl.length R.rc) ∧ w'.cell? ⟨q1, 4, none⟩ = some (.int .i8 R.cd) ∧ w'.cell? ⟨q1, 5, none⟩ = some (.float .f64 R.lv) ∧ w'.cell? ⟨q2, 0, none⟩ = some (.string ts) ∧ w'.cell? ⟨q2, 1, none⟩ = some (.string to) ∧ w'.cell? ⟨q2, 2, none⟩ = some (.string ta) ∧ w'.cell? ⟨pb, 0, none⟩ = some (.string ts) ∧ w'.cell? ⟨pb, 1, none⟩ = some (.float .f64 t) ∧ w'.cell? ⟨pb, 2, none⟩ = some (.map (some nb))) (by kernel_rfl) (KT.out _ hd) (fun hHeld => ?_)
                refine wpAnyH_take (i := 0) (oi := { dst := some 30, op := Op.move (Operand.tmp 7), type := 4, pos := "mean.go:30", after := #[], guard := none }) (v := .bool true) rfl (by kernel_rfl) (by kernel_rfl) (by kernel_rfl) (fun _ _ _ h => h) (Or.inl ⟨by kernel_rfl, fun w hSw => ?_⟩) (by assumption) ?_
                · (try dsimp only at hSw); go_simp
                (try simp only [Act.put, List.setIfInBounds_toArray, List.set_cons_zero, List.set_cons_succ])
                refine wpAnyH_take (i := 1) (oi := { dst := some 31, op := Op.move (Operand.tmp 30), type := 4, pos := "mean.go:30", after := #[{ on := 0, ground := Ground.data }], guard := none }) (v := .bool true) rfl (by kernel_rfl) (by kernel_rfl) (by kernel_rfl) (fun _ _ _ h => h) (Or.inl ⟨by kernel_rfl, fun w hSw => ?_⟩) (by assumption) ?_
                · (try dsimp only at hSw); go_simp
                (try simp only [Act.put, List.setIfInBounds_toArray, List.set_cons_zero, List.set_cons_succ])
                refine wpAnyH_take (i := 2) (oi := { dst := some 32, op := Op.load 66 (Operand.tmp 8), type := 66, pos := "mean.go:30", after := #[{ on := 1, ground := Ground.guard }], guard := some (1, true) }) (v := .agg #[.string ts, .float .f64 t, .map (some nb)]) rfl (by kernel_rfl) (by kernel_rfl) (by kernel_rfl) (fun _ _ _ h => h) (Or.inl ⟨by kernel_rfl, fun w hSw => ?_⟩) (by assumption) ?_
                · (try dsimp only at hSw); go_simp
                (try simp only [Act.put, List.setIfInBounds_toArray, List.set_cons_zero, List.set_cons_succ])
                refine wpAnyH_take (i := 3) (oi := { dst := some 33, op := Op.fieldAddr 27 (Operand.tmp 4) 1, type := 0, pos := "mean.go:30", after := #[{ on := 1, ground := Ground.guard }], guard := some (1, true) }) (v := .pointer (some ⟨q1, 1, none⟩)) rfl (by kernel_rfl) (by kernel_rfl) (by kernel_rfl) (fun _ _ _ h => h) (Or.inl ⟨by kernel_rfl, fun w hSw => ?_⟩) (by assumption) ?_
                · (try dsimp only at hSw); go_simp
                (try simp only [Act.put, List.setIfInBounds_toArray, List.set_cons_zero, List.set_cons_succ])
                refine wpAnyH_take (i := 4) (oi := { dst := some 34, op := Op.load 9 (Operand.tmp 33), type := 9, pos := "mean.go:30", after := #[{ on := 3, ground := Ground.data }, { on := 1, ground := Ground.guard }], guard := some (1, true) }) (v := .string R.who) rfl (by kernel_rfl) (by kernel_rfl) (by kernel_rfl) (fun _ _ _ h => h) (Or.inl ⟨by kernel_rfl, fun w hSw => ?_⟩) (by assumption) ?_
                · (try dsimp only at hSw); go_simp
                (try simp only [Act.put, List.setIfInBounds_toArray, List.set_cons_zero, List.set_cons_succ])
                refine wpAnyH_ready (rs := [5]) (by kernel_rfl) (by simp) ?_
                refine AllReadyH.cons (o := { dst := some 35, op := Op.call { callee := Callee.value (Operand.func 47), args := #[Operand.tmp 32, Operand.tmp 34], argTypes := #[66, 9] }, type := 4, pos := "mean.go:30", after := #[{ on := 2, ground := Ground.data }, { on := 4, ground := Ground.data }, { on := 1, ground := Ground.chain }, { on := 1, ground := Ground.guard }], guard := some (1, true) }) rfl (fun K hK => ?_) AllReadyH.nil
                go_simp
                refine C47.out.mono ?_
                rintro e w3 ⟨rfl, b3⟩
                have b23 : Below w2.heap.size w2 w3 := ⟨b3.os, b3.tape, b3.output, b3.size, b3.block⟩
                clear b3
                (try dsimp only)
                refine hK.out _ _ (KT.out _ b23) (fun hHeld => ?_)
                clear hK K
                (try simp only [Act.put, List.setIfInBounds_toArray, List.set_cons_zero, List.set_cons_succ])
                refine wpAnyH_take (i := 6) (oi := { dst := some 36, op := Op.pick (Operand.tmp 31) (Operand.tmp 35) (Operand.const (Value.bool false)), type := 4, pos := "mean.go:30", after := #[{ on := 1, ground := Ground.data }, { on := 5, ground := Ground.data }], guard := none }) (v := .bool true) rfl (by kernel_rfl) (by kernel_rfl) (by kernel_rfl) (fun _ _ _ h => h) (Or.inl ⟨by kernel_rfl, fun w hSw => ?_⟩) (by assumption) ?_
                · (try dsimp only at hSw); go_simp
                (try simp only [Act.put, List.setIfInBounds_toArray, List.set_cons_zero, List.set_cons_succ])
                refine wpAnyH_take (i := 7) (oi := { dst := some 37, op := Op.move (Operand.tmp 36), type := 4, pos := "mean.go:30", after := #[{ on := 6, ground := Ground.data }, { on := 5, ground := Ground.chain }], guard := none }) (v := .bool true) rfl (by kernel_rfl) (by kernel_rfl) (by kernel_rfl) (fun _ _ _ h => h) (Or.inl ⟨by kernel_rfl, fun w hSw => ?_⟩) (by assumption) ?_
                · (try dsimp only at hSw); go_simp
                (try simp only [Act.put, List.setIfInBounds_toArray, List.set_cons_zero, List.set_cons_succ])
                refine wpAnyH_take (i := 8) (oi := { dst := some 38, op := Op.load 27 (Operand.tmp 4), type := 27, pos := "mean.go:30", after := #[{ on := 7, ground := Ground.guard }], guard := some (7, true) }) (v := .agg #[R.d, .string R.who, .string R.what, .slice R.ro R.rl.length R.rc, .int .i8 R.cd, .float .f64 R.lv]) rfl (by kernel_rfl) (by kernel_rfl) (by kernel_rfl) (fun _ _ _ h => h) (Or.inl ⟨by kernel_rfl, fun w hSw => ?_⟩) (by assumption) ?_
                · (try dsimp only at hSw); go_simp
                (try simp only [Act.put, List.setIfInBounds_toArray, List.set_cons_zero, List.set_cons_succ])
                refine wpAnyH_take (i := 9) (oi := { dst := some 39, op := Op.fieldAddr 66 (Operand.tmp 8) 1, type := 0, pos := "mean.go:30", after := #[{ on := 7, ground := Ground.guard }], guard := some (7, true) }) (v := .pointer (some ⟨pb, 1, none⟩)) rfl (by kernel_rfl) (by kernel_rfl) (by kernel_rfl) (fun _ _ _ h => h) (Or.inl ⟨by kernel_rfl, fun w hSw => ?_⟩) (by assumption) ?_
                · (try dsimp only at hSw); go_simp
                (try simp only [Act.put, List.setIfInBounds_toArray, List.set_cons_zero, List.set_cons_succ])
                refine wpAnyH_take (i := 10) (oi := { dst := some 40, op := Op.load 24 (Operand.tmp 39), type := 24, pos := "mean.go:30", after := #[{ on := 9, ground := Ground.data }, { on := 7, ground := Ground.guard }], guard := some (7, true) }) (v := .float .f64 t) rfl (by kernel_rfl) (by kernel_rfl) (by kernel_rfl) (fun _ _ _ h => h) (Or.inl ⟨by kernel_rfl, fun w hSw => ?_⟩) (by assumption) ?_
                · (try dsimp only at hSw); go_simp
                (try simp only [Act.put, List.setIfInBounds_toArray, List.set_cons_zero, List.set_cons_succ])
                refine wpAnyH_ready (rs := [11]) (by kernel_rfl) (by simp) ?_
                refine AllReadyH.cons (o := { dst := some 41, op := Op.call { callee := Callee.value (Operand.func 16), args := #[Operand.tmp 38, Operand.tmp 40], argTypes := #[27, 24] }, type := 4, pos := "mean.go:30", after := #[{ on := 8, ground := Ground.data }, { on := 10, ground := Ground.data }, { on := 7, ground := Ground.chain }, { on := 7, ground := Ground.guard }], guard := some (7, true) }) rfl (fun K hK => ?_) AllReadyH.nil
                go_simp
                refine (C16.out w3).mono ?_
                rintro e w4 ⟨rfl, b4⟩
                have b24 : Below w2.heap.size w2 w4 := b23.trans (b4.mono b23.size)
                clear b4
                (try dsimp only)
                refine hK.out _ _ (KT.out _ b24) (fun hHeld => ?_)
                clear hK K
                (try simp only [Act.put, List.setIfInBounds_toArray, List.set_cons_zero, List.set_cons_succ])
                refine wpAnyH_take (i := 12) (oi := { dst := some 42, op := Op.pick (Operand.tmp 37) (Operand.tmp 41) (Operand.const (Value.bool false)), type := 4, pos := "mean.go:30", after := #[{ on := 7, ground := Ground.data }, { on := 11, ground := Ground.data }], guard := none }) (v := .bool true) rfl (by kernel_rfl) (by kernel_rfl) (by kernel_rfl) (fun _ _ _ h => h) (Or.inl ⟨by kernel_rfl, fun w hSw => ?_⟩) (by assumption) ?_
                · (try dsimp only at hSw); go_simp
                (try simp only [Act.put, List.setIfInBounds_toArray, List.set_cons_zero, List.set_cons_succ])
                refine wpAnyH_take (i := 13) (oi := { dst := some 43, op := Op.move (Operand.tmp 42), type := 4, pos := "mean.go:30", after := #[{ on := 12, ground := Ground.data }, { on := 11, ground := Ground.chain }], guard := none }) (v := .bool true) rfl (by kernel_rfl) (by kernel_rfl) (by kernel_rfl) (fun _ _ _ h => h) (Or.inl ⟨by kernel_rfl, fun w hSw => ?_⟩) (by assumption) ?_
                · (try dsimp only at hSw); go_simp
                (try simp only [Act.put, List.setIfInBounds_toArray, List.set_cons_zero, List.set_cons_succ])
                refine wpAnyH_take (i := 14) (oi := { dst := some 44, op := Op.load 34 (Operand.tmp 3), type := 34, pos := "mean.go:30", after := #[{ on := 13, ground := Ground.guard }], guard := some (13, true) }) (v := .agg #[.slice P.ao P.al.length P.ac, .slice P.so P.sl.length P.sc, P.ro, .slice P.oo P.ol.length P.oc, P.gr, .slice P.m.1 P.m.2.2.length P.m.2.1, .slice P.i.1 P.i.2.2.length P.i.2.1, .slice P.p.1 P.p.2.2.length P.p.2.1, .slice P.w.1 P.w.2.2.length P.w.2.1, P.ru, P.ex]) rfl (by kernel_rfl) (by kernel_rfl) (by kernel_rfl) (fun _ _ _ h => h) (Or.inl ⟨by kernel_rfl, fun w hSw => ?_⟩) (by assumption) ?_
                · (try dsimp only at hSw); go_simp
                (try simp only [Act.put, List.setIfInBounds_toArray, List.set_cons_zero, List.set_cons_succ])
                refine wpAnyH_take (i := 15) (oi := { dst := some 45, op := Op.fieldAddr 36 (Operand.tmp 5) 1, type := 0, pos := "mean.go:30", after := #[{ on := 13, ground := Ground.guard }], guard := some (13, true) }) (v := .pointer (some ⟨q2, 1, none⟩)) rfl (by kernel_rfl) (by kernel_rfl) (by kernel_rfl) (fun _ _ _ h => h) (Or.inl ⟨by kernel_rfl, fun w hSw => ?_⟩) (by assumption) ?_
                · (try dsimp only at hSw); go_simp
                (try simp only [Act.put, List.setIfInBounds_toArray, List.set_cons_zero, List.set_cons_succ])
                refine wpAnyH_take (i := 16) (oi := { dst := some 46, op := Op.load 9 (Operand.tmp 45), type := 9, pos := "mean.go:30", after := #[{ on := 15, ground := Ground.data }, { on := 13, ground := Ground.guard }], guard := some (13, true) }) (v := .string to) rfl (by kernel_rfl) (by kernel_rfl) (by kernel_rfl) (fun _ _ _ h => h) (Or.inl ⟨by kernel_rfl, fun w hSw => ?_⟩) (by assumption) ?_
                · (try dsimp only at hSw); go_simp
                (try simp only [Act.put, List.setIfInBounds_toArray, List.set_cons_zero, List.set_cons_succ])
                refine wpAnyH_take (i := 18) (oi := { dst := some 48, op := Op.fieldAddr 27 (Operand.tmp 4) 2, type := 0, pos := "mean.go:30", after := #[{ on := 13, ground := Ground.guard }], guard := some (13, true) }) (v := .pointer (some ⟨q1, 2, none⟩)) rfl (by kernel_rfl) (by kernel_rfl) (by kernel_rfl) (fun _ _ _ h => h) (Or.inl ⟨by kernel_rfl, fun w hSw => ?_⟩) (by assumption) ?_
                · (try dsimp only at hSw); go_simp
                (try simp only [Act.put, List.setIfInBounds_toArray, List.set_cons_zero, List.set_cons_succ])
                refine wpAnyH_take (i := 19) (oi := { dst := some 49, op := Op.load 9 (Operand.tmp 48), type := 9, pos := "mean.go:30", after := #[{ on := 18, ground := Ground.data }, { on := 13, ground := Ground.guard }], guard := some (13, true) }) (v := .string R.what) rfl (by kernel_rfl) (by kernel_rfl) (by kernel_rfl) (fun _ _ _ h => h) (Or.inl ⟨by kernel_rfl, fun w hSw => ?_⟩) (by assumption) ?_
                · (try dsimp only at hSw); go_simp
                (try simp only [Act.put, List.setIfInBounds_toArray, List.set_cons_zero, List.set_cons_succ])
                refine wpAnyH_ready (rs := [17]) (by kernel_rfl) (by simp) ?_
                refine AllReadyH.cons (o := { dst := some 47, op := Op.call { callee := Callee.value (Operand.func 48), args := #[Operand.tmp 44, Operand.tmp 46], argTypes := #[34, 9] }, type := 66, pos := "mean.go:30", after := #[{ on := 14, ground := Ground.data }, { on := 16, ground := Ground.data }, { on := 13, ground := Ground.chain }, { on := 13, ground := Ground.guard }], guard := some (13, true) }) rfl (fun K hK => ?_) AllReadyH.nil
                go_simp
                refine (C48.out w4 b24).mono ?_
                rintro e w5 ⟨nb2, ms2, rfl, hnb2, hN2, hmem2, b5⟩
                have b25 : Below w2.heap.size w2 w5 := b24.trans (b5.mono b24.size)
                have N5 := hide' (And.intro hN2 hmem2)
                clear b5 hN2 hmem2 hnb2
                (try dsimp only)
                refine hK.out _ _ (KT.out _ b25) (fun hHeld => ?_)
                clear hK K
                (try simp only [Act.put, List.setIfInBounds_toArray, List.set_cons_zero, List.set_cons_succ])
                refine wpAnyH_ready (rs := [20]) (by kernel_rfl) (by simp) ?_
                refine AllReadyH.cons (o := { dst := some 50, op := Op.call { callee := Callee.value (Operand.func 47), args := #[Operand.tmp 47, Operand.tmp 49], argTypes := #[66, 9] }, type := 4, pos := "mean.go:30", after := #[{ on := 17, ground := Ground.data }, { on := 19, ground := Ground.data }, { on := 17, ground := Ground.chain }, { on := 13, ground := Ground.guard }], guard := some (13, true) }) rfl (fun K hK => ?_) AllReadyH.nil
                go_simp
                refine (is_any _ _ _ _ _ _ N5.out.1 (okk_of hz.2.2.2.1)).mono ?_
                rintro e w6 ⟨rfl, b6⟩
                have b26 : Below w2.heap.size w2 w6 := b25.trans (b6.mono b25.size)
                clear b6
                (try dsimp only)
                refine hK.out _ _ (KT.out _ b26) (fun hHeld => ?_)
                clear hK K
                (try simp only [Act.put, List.setIfInBounds_toArray, List.set_cons_zero, List.set_cons_succ])
                refine wpAnyH_take (i := 21) (oi := { dst := some 51, op := Op.pick (Operand.tmp 43) (Operand.tmp 50) (Operand.const (Value.bool false)), type := 4, pos := "mean.go:30", after := #[{ on := 13, ground := Ground.data }, { on := 20, ground := Ground.data }], guard := none }) (v := .bool (isIn ms2 R.what)) rfl (by kernel_rfl) (by kernel_rfl) (by kernel_rfl) (fun _ _ _ h => h) (Or.inl ⟨by kernel_rfl, fun w hSw => ?_⟩) (by assumption) ?_
                · (try dsimp only at hSw); go_simp
                (try simp only [Act.put, List.setIfInBounds_toArray, List.set_cons_zero, List.set_cons_succ])
                refine wpAnyH_take (i := 22) (oi := { dst := some 6, op := Op.assign (Operand.tmp 51), type := 4, pos := "mean.go:30", after := #[{ on := 21, ground := Ground.data }, { on := 20, ground := Ground.chain }, { on := 0, ground := Ground.phase }, { on := 1, ground := Ground.phase }, { on := 2, ground := Ground.phase }, { on := 3, ground := Ground.phase }, { on := 4, ground := Ground.phase }, { on := 5, ground := Ground.phase }, { on := 6, ground := Ground.phase }, { on := 7, ground := Ground.phase }, { on := 8, ground := Ground.phase }, { on := 9, ground := Ground.phase }, { on := 10, ground := Ground.phase }, { on := 11, ground := Ground.phase }, { on := 12, ground := Ground.phase }, { on := 13, ground := Ground.phase }, { on := 14, ground := Ground.phase }, { on := 15, ground := Ground.phase }, { on := 16, ground := Ground.phase }, { on := 17, ground := Ground.phase }, { on := 18, ground := Ground.phase }, { on := 19, ground := Ground.phase }, { on := 20, ground := Ground.phase }, { on := 21, ground := Ground.phase }], guard := none }) (v := .bool (isIn ms2 R.what)) rfl (by kernel_rfl) (by kernel_rfl) (by kernel_rfl) (fun _ _ _ h => h) (Or.inl ⟨by kernel_rfl, fun w hSw => ?_⟩) (by assumption) ?_
                · (try dsimp only at hSw); go_simp
                (try simp only [Act.put, List.setIfInBounds_toArray, List.set_cons_zero, List.set_cons_succ])
                have hm : Hid (mtc P R ts to ta = isIn ms2 R.what) := by show _ = _; unfold mtc; rw [hact, hspb, htH.out]; simp only []; rw [← hwH.out, hwho, hpass, hobj, isIn_iff N5.out.2 R.what]; simp
                refine wpAnyH_done (by kernel_rfl) ?_ _
                go_wp2_with fail
                go_ret
                exact ⟨by rw [hm.out]; rfl, hw2.out.trans (b26.mono hw2.out.size)⟩
        · have b2 : Hid (Below V.heap.size V (w1.alloc (.cells #[.string ⟨#[]⟩, .float .f64 0, .map none] 66))) := b1.trans (((Below.refl _ _).alloc (Nat.le_refl _) _).mono b1.size)
          have g2 := heap_alloc_new w1 (.cells #[.string ⟨#[]⟩, .float .f64 0, .map none] 66)
          have hw2 : Hid (Below w.heap.size w (w1.alloc (.cells #[.string ⟨#[]⟩, .float .f64 0, .map none] 66))) := HbV.out.trans (b2.out.mono HbV.out.size)
          have hI2 := hide' (HI.out.below b2.out)

          obtain ⟨e0, e1, e2, e3, e4, e5, e6, e7, e8, e9, e10, e11, e12, e13, e14, e15, e16, e17, e18, e19⟩ := KS.out _ b2.out
          have u0 : (w1.alloc (.cells #[.string ⟨#[]⟩, .float .f64 0, .map none] 66)).cell? ⟨w1.heap.size, 0, none⟩ = some (.string ⟨#[]⟩) := by rw [Lib.cell_of_heap g2]; rfl
          have u1 : (w1.alloc (.cells #[.string ⟨#[]⟩, .float .f64 0, .map none] 66)).cell? ⟨w1.heap.size, 1, none⟩ = some (.float .f64 0) := by rw [Lib.cell_of_heap g2]; rfl
          have u2 : (w1.alloc (.cells #[.string ⟨#[]⟩, .float .f64 0, .map none] 66)).cell? ⟨w1.heap.size, 2, none⟩ = some (.map none) := by rw [Lib.cell_of_heap g2]; rfl
          have hpl := lt_of_heap g2
          have hbl := b2.out.size
          go_wp2_with fail
          clear g2
          generalize w1.heap.size = pb at *
          generalize w1.alloc (.cells #[.string ⟨#[]⟩, .float .f64 0, .map none] 66) = w2 at *
          have KT : Hid (∀ w', Below w2.heap.size w2 w' → w'.cell? ⟨q0, 0, none⟩ = some (.slice P.ao P.al.length P.ac) ∧ w'.cell? ⟨q0, 1, none⟩ = some (.slice P.so P.sl.length P.sc) ∧ w'.cell? ⟨q0, 2, none⟩ = some P.ro ∧ w'.cell? ⟨q0, 3, none⟩ = some (.slice P.oo P.ol.length P.oc) ∧ w'.cell? ⟨q0, 4, none⟩ = some P.gr ∧ w'.cell? ⟨q0, 5, none⟩ = some (.slice P.m.1 P.m.2.2.length P.m.2.1) ∧ w'.cell? ⟨q0, 6, none⟩ = some (.slice P.i.1 P.i.2.2.length P.i.2.1) ∧ w'.cell? ⟨q0, 7, none⟩ = some (.slice P.p.1 P.p.2.2.length P.p.2.1) ∧ w'.cell? ⟨q0, 8, none⟩ = some (.slice P.w.1 P.w.2.2.length P.w.2.1) ∧ w'.cell? ⟨q0, 9, none⟩ = some P.ru ∧ w'.cell? ⟨q0, 10, none⟩ = some P.ex ∧ w'.cell? ⟨q1, 0, none⟩ = some R.d ∧ w'.cell? ⟨q1, 1, none⟩ = some (.string R.who) ∧ w'.cell? ⟨q1, 2, none⟩ = some (.string R.what) ∧ w'.cell? ⟨q1, 3, none⟩ = some (.slice R.ro R.rl.length R.rc) ∧ w'.cell? ⟨q1, 4, none⟩ = some (.int .i8 R.cd) ∧ w'.cell? ⟨q1, 5, none⟩ = some (.float .f64 R.lv) ∧ w'.cell? ⟨q2, 0, none⟩ = some (.string ts) ∧ w'.cell? ⟨q2, 1, none⟩ = some (.string to) ∧ w'.cell? ⟨q2, 2, none⟩ = some (.string ta) ∧ w'.cell? ⟨pb, 0, none⟩ = some (.string ⟨#[]⟩) ∧ w'.cell? ⟨pb, 1, none⟩ = some (.float .f64 0) ∧ w'.cell? ⟨pb, 2, none⟩ = some (.map none)) := fun w' b => ⟨(b.cell (p := ⟨q0, 0, none⟩) (Nat.lt_of_lt_of_le hlsH.out.1 hbl)).trans e0, (b.cell (p := ⟨q0, 1, none⟩) (Nat.lt_of_lt_of_le hlsH.out.1 hbl)).trans e1, (b.cell (p := ⟨q0, 2, none⟩) (Nat.lt_of_lt_of_le hlsH.out.1 hbl)).trans e2, (b.cell (p := ⟨q0, 3, none⟩) (Nat.lt_of_lt_of_le hlsH.out.1 hbl)).trans e3, (b.cell (p := ⟨q0, 4, none⟩) (Nat.lt_of_lt_of_le hlsH.out.1 hbl)).trans e4, (b.cell (p := ⟨q0, 5, none⟩) (Nat.lt_of_lt_of_le hlsH.out.1 hbl)).trans e5, (b.cell (p := ⟨q0, 6, none⟩) (Nat.lt_of_lt_of_le hlsH.out.1 hbl)).trans e6, (b.cell (p := ⟨q0, 7, none⟩) (Nat.lt_of_lt_of_le hlsH.out.1 hbl)).trans e7, (b.cell (p := ⟨q0, 8, none⟩) (Nat.lt_of_lt_of_le hlsH.out.1 hbl)).trans e8, (b.cell (p := ⟨q0, 9, none⟩) (Nat.lt_of_lt_of_le hlsH.out.1 hbl)).trans e9, (b.cell (p := ⟨q0, 10, none⟩) (Nat.lt_of_lt_of_le hlsH.out.1 hbl)).trans e10, (b.cell (p := ⟨q1, 0, none⟩) (Nat.lt_of_lt_of_le hlsH.out.2.1 hbl)).trans e11, (b.cell (p := ⟨q1, 1, none⟩) (Nat.lt_of_lt_of_le hlsH.out.2.1 hbl)).trans e12, (b.cell (p := ⟨q1, 2, none⟩) (Nat.lt_of_lt_of_le hlsH.out.2.1 hbl)).trans e13, (b.cell (p := ⟨q1, 3, none⟩) (Nat.lt_of_lt_of_le hlsH.out.2.1 hbl)).trans e14, (b.cell (p := ⟨q1, 4, none⟩) (Nat.lt_of_lt_of_le hlsH.out.2.1 hbl)).trans e15, (b.cell (p := ⟨q1, 5, none⟩) (Nat.lt_of_lt_of_le hlsH.out.2.1 hbl)).trans e16, (b.cell (p := ⟨q2, 0, none⟩) (Nat.lt_of_lt_of_le hlsH.out.2.2 hbl)).trans e17, (b.cell (p := ⟨q2, 1, none⟩) (Nat.lt_of_lt_of_le hlsH.out.2.2 hbl)).trans e18, (b.cell (p := ⟨q2, 2, none⟩) (Nat.lt_of_lt_of_le hlsH.out.2.2 hbl)).trans e19, (b.cell (p := ⟨pb, 0, none⟩) hpl).trans u0, (b.cell (p := ⟨pb, 1, none⟩) hpl).trans u1, (b.cell (p := ⟨pb, 2, none⟩) hpl).trans u2⟩
          have hd : Below w2.heap.size w2 w2.drew := ⟨rfl, rfl, rfl, Nat.le_refl _, fun _ _ => rfl⟩
          have C47 : Hid (Calls Try.prog 47 #[.agg #[.string ⟨#[]⟩, .float .f64 0, .map none], .string R.who] w2.drew fun e w' => e = .returned (.bool false) ∧ Below w2.drew.heap.size w2.drew w') := is_none _ _ _ _ (okk_of hz.2.2.1)
          have hm : Hid (mtc P R ts to ta = false) := by show _ = _; unfold mtc; rw [hact, hspb, ht]; simp
          refine wp_region_held_drew (S := fun w' => w'.cell? ⟨q0, 0, none⟩ = some (.slice P.ao P.al.length P.ac) ∧ w'.cell? ⟨q0, 1, none⟩ = some (.slice P.so P.sl.length P.sc) ∧ w'.cell? ⟨q0, 2, none⟩ = some P.ro ∧ w'.cell? ⟨q0, 3, none⟩ = some (.slice P.oo P.ol.length P.oc) ∧ w'.cell? ⟨q0, 4, none⟩ = some P.gr ∧ w'.cell? ⟨q0, 5, none⟩ = some (.slice P.m.1 P.m.2.2.length P.m.2.1) ∧ w'.cell? ⟨q0, 6, none⟩ = some (.slice P.i.1 P.i.2.2.length P.i.2.1) ∧ w'.cell? ⟨q0, 7, none⟩ = some (.slice P.p.1 P.p.2.2.length P.p.2.1) ∧ w'.cell? ⟨q0, 8, none⟩ = some (.slice P.w.1 P.w.2.2.length P.w.2.1) ∧ w'.cell? ⟨q0, 9, none⟩ = some P.ru ∧ w'.cell? ⟨q0, 10, none⟩ = some P.ex ∧ w'.cell? ⟨q1, 0, none⟩ = some R.d ∧ w'.cell? ⟨q1, 1, none⟩ = some (.string R.who) ∧ w'.cell? ⟨q1, 2, none⟩ = some (.string R.what) ∧ w'.cell? ⟨q1, 3, none⟩ = some (.slice R.ro R.rl.length R.rc) ∧ w'.cell? ⟨q1, 4, none⟩ = some (.int .i8 R.cd) ∧ w'.cell? ⟨q1, 5, none⟩ = some (.float .f64 R.lv) ∧ w'.cell? ⟨q2, 0, none⟩ = some (.string ts) ∧ w'.cell? ⟨q2, 1, none⟩ = some (.string to) ∧ w'.cell? ⟨q2, 2, none⟩ = some (.string ta) ∧ w'.cell? ⟨pb, 0, none⟩ = some (.string ⟨#[]⟩) ∧ w'.cell? ⟨pb, 1, none⟩ = some (.float .f64 0) ∧ w'.cell? ⟨pb, 2, none⟩ = some (.map none)) (by kernel_rfl) (KT.out _ hd) (fun hHeld => ?_)
          refine wpAnyH_take (i := 0) (oi := { dst := some 30, op := Op.move (Operand.tmp 7), type := 4, pos := "mean.go:30", after := #[], guard := none }) (v := .bool true) rfl (by kernel_rfl) (by kernel_rfl) (by kernel_rfl) (fun _ _ _ h => h) (Or.inl ⟨by kernel_rfl, fun w hSw => ?_⟩) (by assumption) ?_
          · (try dsimp only at hSw); go_simp
          (try simp only [Act.put, List.setIfInBounds_toArray, List.set_cons_zero, List.set_cons_succ])
          refine wpAnyH_take (i := 1) (oi := { dst := some 31, op := Op.move (Operand.tmp 30), type := 4, pos := "mean.go:30", after := #[{ on := 0, ground := Ground.data }], guard := none }) (v := .bool true) rfl (by kernel_rfl) (by kernel_rfl) (by kernel_rfl) (fun _ _ _ h => h) (Or.inl ⟨by kernel_rfl, fun w hSw => ?_⟩) (by assumption) ?_
          · (try dsimp only at hSw); go_simp
          (try simp only [Act.put, List.setIfInBounds_toArray, List.set_cons_zero, List.set_cons_succ])
          refine wpAnyH_take (i := 2) (oi := { dst := some 32, op := Op.load 66 (Operand.tmp 8), type := 66, pos := "mean.go:30", after := #[{ on := 1, ground := Ground.guard }], guard := some (1, true) }) (v := .agg #[.string ⟨#[]⟩, .float .f64 0, .map none]) rfl (by kernel_rfl) (by kernel_rfl) (by kernel_rfl) (fun _ _ _ h => h) (Or.inl ⟨by kernel_rfl, fun w hSw => ?_⟩) (by assumption) ?_
          · (try dsimp only at hSw); go_simp
          (try simp only [Act.put, List.setIfInBounds_toArray, List.set_cons_zero, List.set_cons_succ])
          refine wpAnyH_take (i := 3) (oi := { dst := some 33, op := Op.fieldAddr 27 (Operand.tmp 4) 1, type := 0, pos := "mean.go:30", after := #[{ on := 1, ground := Ground.guard }], guard := some (1, true) }) (v := .pointer (some ⟨q1, 1, none⟩)) rfl (by kernel_rfl) (by kernel_rfl) (by kernel_rfl) (fun _ _ _ h => h) (Or.inl ⟨by kernel_rfl, fun w hSw => ?_⟩) (by assumption) ?_
          · (try dsimp only at hSw); go_simp
          (try simp only [Act.put, List.setIfInBounds_toArray, List.set_cons_zero, List.set_cons_succ])
          refine wpAnyH_take (i := 4) (oi := { dst := some 34, op := Op.load 9 (Operand.tmp 33), type := 9, pos := "mean.go:30", after := #[{ on := 3, ground := Ground.data }, { on := 1, ground := Ground.guard }], guard := some (1, true) }) (v := .string R.who) rfl (by kernel_rfl) (by kernel_rfl) (by kernel_rfl) (fun _ _ _ h => h) (Or.inl ⟨by kernel_rfl, fun w hSw => ?_⟩) (by assumption) ?_
          · (try dsimp only at hSw); go_simp
          (try simp only [Act.put, List.setIfInBounds_toArray, List.set_cons_zero, List.set_cons_succ])
          refine wpAnyH_ready (rs := [5]) (by kernel_rfl) (by simp) ?_
          refine AllReadyH.cons (o := { dst := some 35, op := Op.call { callee := Callee.value (Operand.func 47), args := #[Operand.tmp 32, Operand.tmp 34], argTypes := #[66, 9] }, type := 4, pos := "mean.go:30", after := #[{ on := 2, ground := Ground.data }, { on := 4, ground := Ground.data }, { on := 1, ground := Ground.chain }, { on := 1, ground := Ground.guard }], guard := some (1, true) }) rfl (fun K hK => ?_) AllReadyH.nil
          go_simp
          refine C47.out.mono ?_
          rintro e w3 ⟨rfl, b3⟩
          have b23 : Below w2.heap.size w2 w3 := ⟨b3.os, b3.tape, b3.output, b3.size, b3.block⟩
          clear b3
          (try dsimp only)
          refine hK.out _ _ (KT.out _ b23) (fun hHeld => ?_)
          clear hK K
          (try simp only [Act.put, List.setIfInBounds_toArray, List.set_cons_zero, List.set_cons_succ])
          refine wpAnyH_take (i := 6) (oi := { dst := some 36, op := Op.pick (Operand.tmp 31) (Operand.tmp 35) (Operand.const (Value.bool false)), type := 4, pos := "mean.go:30", after := #[{ on := 1, ground := Ground.data }, { on := 5, ground := Ground.data }], guard := none }) (v := .bool false) rfl (by kernel_rfl) (by kernel_rfl) (by kernel_rfl) (fun _ _ _ h => h) (Or.inl ⟨by kernel_rfl, fun w hSw => ?_⟩) (by assumption) ?_
          · (try dsimp only at hSw); go_simp
          (try simp only [Act.put, List.setIfInBounds_toArray, List.set_cons_zero, List.set_cons_succ])
          refine wpAnyH_take (i := 7) (oi := { dst := some 37, op := Op.move (Operand.tmp 36), type := 4, pos := "mean.go:30", after := #[{ on := 6, ground := Ground.data }, { on := 5, ground := Ground.chain }], guard := none }) (v := .bool false) rfl (by kernel_rfl) (by kernel_rfl) (by kernel_rfl) (fun _ _ _ h => h) (Or.inl ⟨by kernel_rfl, fun w hSw => ?_⟩) (by assumption) ?_
          · (try dsimp only at hSw); go_simp
          (try simp only [Act.put, List.setIfInBounds_toArray, List.set_cons_zero, List.set_cons_succ])
          refine wpAnyH_take (i := 8) (oi := { dst := some 38, op := Op.load 27 (Operand.tmp 4), type := 27, pos := "mean.go:30", after := #[{ on := 7, ground := Ground.guard }], guard := some (7, true) }) (v := undef) rfl (by kernel_rfl) (by kernel_rfl) (by kernel_rfl) (fun _ _ _ h => h) (Or.inr ⟨by kernel_rfl, rfl⟩) (by assumption) ?_
          (try simp only [Act.put, List.setIfInBounds_toArray, List.set_cons_zero, List.set_cons_succ])
          refine wpAnyH_take (i := 9) (oi := { dst := some 39, op := Op.fieldAddr 66 (Operand.tmp 8) 1, type := 0, pos := "mean.go:30", after := #[{ on := 7, ground := Ground.guard }], guard := some (7, true) }) (v := undef) rfl (by kernel_rfl) (by kernel_rfl) (by kernel_rfl) (fun _ _ _ h => h) (Or.inr ⟨by kernel_rfl, rfl⟩) (by assumption) ?_
          (try simp only [Act.put, List.setIfInBounds_toArray, List.set_cons_zero, List.set_cons_succ])
          refine wpAnyH_take (i := 10) (oi := { dst := some 40, op := Op.load 24 (Operand.tmp 39), type := 24, pos := "mean.go:30", after := #[{ on := 9, ground := Ground.data }, { on := 7, ground := Ground.guard }], guard := some (7, true) }) (v := undef) rfl (by kernel_rfl) (by kernel_rfl) (by kernel_rfl) (fun _ _ _ h => h) (Or.inr ⟨by kernel_rfl, rfl⟩) (by assumption) ?_
          (try simp only [Act.put, List.setIfInBounds_toArray, List.set_cons_zero, List.set_cons_succ])
          refine wpAnyH_take (i := 11) (oi := { dst := some 41, op := Op.call { callee := Callee.value (Operand.func 16), args := #[Operand.tmp 38, Operand.tmp 40], argTypes := #[27, 24] }, type := 4, pos := "mean.go:30", after := #[{ on := 8, ground := Ground.data }, { on := 10, ground := Ground.data }, { on := 7, ground := Ground.chain }, { on := 7, ground := Ground.guard }], guard := some (7, true) }) (v := undef) rfl (by kernel_rfl) (by kernel_rfl) (by kernel_rfl) (fun _ _ _ h => h) (Or.inr ⟨by kernel_rfl, rfl⟩) (by assumption) ?_
          (try simp only [Act.put, List.setIfInBounds_toArray, List.set_cons_zero, List.set_cons_succ])
          refine wpAnyH_take (i := 12) (oi := { dst := some 42, op := Op.pick (Operand.tmp 37) (Operand.tmp 41) (Operand.const (Value.bool false)), type := 4, pos := "mean.go:30", after := #[{ on := 7, ground := Ground.data }, { on := 11, ground := Ground.data }], guard := none }) (v := .bool false) rfl (by kernel_rfl) (by kernel_rfl) (by kernel_rfl) (fun _ _ _ h => h) (Or.inl ⟨by kernel_rfl, fun w hSw => ?_⟩) (by assumption) ?_
          · (try dsimp only at hSw); go_simp
          (try simp only [Act.put, List.setIfInBounds_toArray, List.set_cons_zero, List.set_cons_succ])
          refine wpAnyH_take (i := 13) (oi := { dst := some 43, op := Op.move (Operand.tmp 42), type := 4, pos := "mean.go:30", after := #[{ on := 12, ground := Ground.data }, { on := 11, ground := Ground.chain }], guard := none }) (v := .bool false) rfl (by kernel_rfl) (by kernel_rfl) (by kernel_rfl) (fun _ _ _ h => h) (Or.inl ⟨by kernel_rfl, fun w hSw => ?_⟩) (by assumption) ?_
          · (try dsimp only at hSw); go_simp
          (try simp only [Act.put, List.setIfInBounds_toArray, List.set_cons_zero, List.set_cons_succ])
          refine wpAnyH_take (i := 14) (oi := { dst := some 44, op := Op.load 34 (Operand.tmp 3), type := 34, pos := "mean.go:30", after := #[{ on := 13, ground := Ground.guard }], guard := some (13, true) }) (v := undef) rfl (by kernel_rfl) (by kernel_rfl) (by kernel_rfl) (fun _ _ _ h => h) (Or.inr ⟨by kernel_rfl, rfl⟩) (by assumption) ?_
          (try simp only [Act.put, List.setIfInBounds_toArray, List.set_cons_zero, List.set_cons_succ])
          refine wpAnyH_take (i := 15) (oi := { dst := some 45, op := Op.fieldAddr 36 (Operand.tmp 5) 1, type := 0, pos := "mean.go:30", after := #[{ on := 13, ground := Ground.guard }], guard := some (13, true) }) (v := undef) rfl (by kernel_rfl) (by kernel_rfl) (by kernel_rfl) (fun _ _ _ h => h) (Or.inr ⟨by kernel_rfl, rfl⟩) (by assumption) ?_
          (try simp only [Act.put, List.setIfInBounds_toArray, List.set_cons_zero, List.set_cons_succ])
          refine wpAnyH_take (i := 16) (oi := { dst := some 46, op := Op.load 9 (Operand.tmp 45), type := 9, pos := "mean.go:30", after := #[{ on := 15, ground := Ground.data }, { on := 13, ground := Ground.guard }], guard := some (13, true) }) (v := undef) rfl (by kernel_rfl) (by kernel_rfl) (by kernel_rfl) (fun _ _ _ h => h) (Or.inr ⟨by kernel_rfl, rfl⟩) (by assumption) ?_
          (try simp only [Act.put, List.setIfInBounds_toArray, List.set_cons_zero, List.set_cons_succ])
          refine wpAnyH_take (i := 17) (oi := { dst := some 47, op := Op.call { callee := Callee.value (Operand.func 48), args := #[Operand.tmp 44, Operand.tmp 46], argTypes := #[34, 9] }, type := 66, pos := "mean.go:30", after := #[{ on := 14, ground := Ground.data }, { on := 16, ground := Ground.data }, { on := 13, ground := Ground.chain }, { on := 13, ground := Ground.guard }], guard := some (13, true) }) (v := undef) rfl (by kernel_rfl) (by kernel_rfl) (by kernel_rfl) (fun _ _ _ h => h) (Or.inr ⟨by kernel_rfl, rfl⟩) (by assumption) ?_
          (try simp only [Act.put, List.setIfInBounds_toArray, List.set_cons_zero, List.set_cons_succ])
          refine wpAnyH_take (i := 18) (oi := { dst := some 48, op := Op.fieldAddr 27 (Operand.tmp 4) 2, type := 0, pos := "mean.go:30", after := #[{ on := 13, ground := Ground.guard }], guard := some (13, true) }) (v := undef) rfl (by kernel_rfl) (by kernel_rfl) (by kernel_rfl) (fun _ _ _ h => h) (Or.inr ⟨by kernel_rfl, rfl⟩) (by assumption) ?_
          (try simp only [Act.put, List.setIfInBounds_toArray, List.set_cons_zero, List.set_cons_succ])
          refine wpAnyH_take (i := 19) (oi := { dst := some 49, op := Op.load 9 (Operand.tmp 48), type := 9, pos := "mean.go:30", after := #[{ on := 18, ground := Ground.data }, { on := 13, ground := Ground.guard }], guard := some (13, true) }) (v := undef) rfl (by kernel_rfl) (by kernel_rfl) (by kernel_rfl) (fun _ _ _ h => h) (Or.inr ⟨by kernel_rfl, rfl⟩) (by assumption) ?_
          (try simp only [Act.put, List.setIfInBounds_toArray, List.set_cons_zero, List.set_cons_succ])
          refine wpAnyH_take (i := 20) (oi := { dst := some 50, op := Op.call { callee := Callee.value (Operand.func 47), args := #[Operand.tmp 47, Operand.tmp 49], argTypes := #[66, 9] }, type := 4, pos := "mean.go:30", after := #[{ on := 17, ground := Ground.data }, { on := 19, ground := Ground.data }, { on := 17, ground := Ground.chain }, { on := 13, ground := Ground.guard }], guard := some (13, true) }) (v := undef) rfl (by kernel_rfl) (by kernel_rfl) (by kernel_rfl) (fun _ _ _ h => h) (Or.inr ⟨by kernel_rfl, rfl⟩) (by assumption) ?_
          (try simp only [Act.put, List.setIfInBounds_toArray, List.set_cons_zero, List.set_cons_succ])
          refine wpAnyH_take (i := 21) (oi := { dst := some 51, op := Op.pick (Operand.tmp 43) (Operand.tmp 50) (Operand.const (Value.bool false)), type := 4, pos := "mean.go:30", after := #[{ on := 13, ground := Ground.data }, { on := 20, ground := Ground.data }], guard := none }) (v := .bool false) rfl (by kernel_rfl) (by kernel_rfl) (by kernel_rfl) (fun _ _ _ h => h) (Or.inl ⟨by kernel_rfl, fun w hSw => ?_⟩) (by assumption) ?_
          · (try dsimp only at hSw); go_simp
          (try simp only [Act.put, List.setIfInBounds_toArray, List.set_cons_zero, List.set_cons_succ])
          refine wpAnyH_take (i := 22) (oi := { dst := some 6, op := Op.assign (Operand.tmp 51), type := 4, pos := "mean.go:30", after := #[{ on := 21, ground := Ground.data }, { on := 20, ground := Ground.chain }, { on := 0, ground := Ground.phase }, { on := 1, ground := Ground.phase }, { on := 2, ground := Ground.phase }, { on := 3, ground := Ground.phase }, { on := 4, ground := Ground.phase }, { on := 5, ground := Ground.phase }, { on := 6, ground := Ground.phase }, { on := 7, ground := Ground.phase }, { on := 8, ground := Ground.phase }, { on := 9, ground := Ground.phase }, { on := 10, ground := Ground.phase }, { on := 11, ground := Ground.phase }, { on := 12, ground := Ground.phase }, { on := 13, ground := Ground.phase }, { on := 14, ground := Ground.phase }, { on := 15, ground := Ground.phase }, { on := 16, ground := Ground.phase }, { on := 17, ground := Ground.phase }, { on := 18, ground := Ground.phase }, { on := 19, ground := Ground.phase }, { on := 20, ground := Ground.phase }, { on := 21, ground := Ground.phase }], guard := none }) (v := .bool false) rfl (by kernel_rfl) (by kernel_rfl) (by kernel_rfl) (fun _ _ _ h => h) (Or.inl ⟨by kernel_rfl, fun w hSw => ?_⟩) (by assumption) ?_
          · (try dsimp only at hSw); go_simp
          (try simp only [Act.put, List.setIfInBounds_toArray, List.set_cons_zero, List.set_cons_succ])
          refine wpAnyH_done (by kernel_rfl) ?_ _
          go_wp2_with fail
          go_ret
          exact ⟨by rw [hm.out]; rfl, hw2.out.trans (b23.mono hw2.out.size)⟩
      | false =>
        have hspb : (R.rl.isEmpty || isIn R.rl ta) = false := by rw [hne, hsp]; rfl
        have hm : Hid (mtc P R ts to ta = false) := by show _ = _; unfold mtc; rw [hact, hspb]; simp
        go_wp2_with fail
        refine C2.out.mono ?_
        rintro e w1 hsub
        have hsw : Hid (Below V.heap.size V w1 ∧ ∃ p0 p1 p2, e = .returned (.agg #[.string p0, .float .f64 p1, .map p2])) := by
          rcases hsub with ⟨t, ht, nb, ms, rfl, hnb, hN, hmem, b1⟩ | ⟨ht, rfl, b1⟩
          · exact ⟨b1, _, _, _, rfl⟩
          · exact ⟨b1, _, _, _, rfl⟩
        clear hsub
        obtain ⟨b1, p0, p1, p2, rfl⟩ := hsw.out
        have hw2 : Hid (∀ o, Below w.heap.size w (w1.alloc o)) := fun o => (HbV.out.trans (b1.mono HbV.out.size)).alloc (Nat.le_trans HbV.out.size b1.size) o
        clear hsw b1
        go_wp2_with fail
        refine wp_region_held_drew (S := fun _ => True) (by kernel_rfl) trivial (fun hHeld => ?_)
        refine wpAnyH_take (i := 0) (oi := { dst := some 30, op := Op.move (Operand.tmp 7), type := 4, pos := "mean.go:30", after := #[], guard := none }) (v := .bool false) rfl (by kernel_rfl) (by kernel_rfl) (by kernel_rfl) (fun _ _ _ h => h) (Or.inl ⟨by kernel_rfl, fun w hSw => ?_⟩) (by assumption) ?_
        · (try dsimp only at hSw); go_simp
        (try simp only [Act.put, List.setIfInBounds_toArray, List.set_cons_zero, List.set_cons_succ])
        refine wpAnyH_take (i := 1) (oi := { dst := some 31, op := Op.move (Operand.tmp 30), type := 4, pos := "mean.go:30", after := #[{ on := 0, ground := Ground.data }], guard := none }) (v := .bool false) rfl (by kernel_rfl) (by kernel_rfl) (by kernel_rfl) (fun _ _ _ h => h) (Or.inl ⟨by kernel_rfl, fun w hSw => ?_⟩) (by assumption) ?_
        · (try dsimp only at hSw); go_simp
        (try simp only [Act.put, List.setIfInBounds_toArray, List.set_cons_zero, List.set_cons_succ])
        refine wpAnyH_take (i := 2) (oi := { dst := some 32, op := Op.load 66 (Operand.tmp 8), type := 66, pos := "mean.go:30", after := #[{ on := 1, ground := Ground.guard }], guard := some (1, true) }) (v := undef) rfl (by kernel_rfl) (by kernel_rfl) (by kernel_rfl) (fun _ _ _ h => h) (Or.inr ⟨by kernel_rfl, rfl⟩) (by assumption) ?_
        (try simp only [Act.put, List.setIfInBounds_toArray, List.set_cons_zero, List.set_cons_succ])
        refine wpAnyH_take (i := 3) (oi := { dst := some 33, op := Op.fieldAddr 27 (Operand.tmp 4) 1, type := 0, pos := "mean.go:30", after := #[{ on := 1, ground := Ground.guard }], guard := some (1, true) }) (v := undef) rfl (by kernel_rfl) (by kernel_rfl) (by kernel_rfl) (fun _ _ _ h => h) (Or.inr ⟨by kernel_rfl, rfl⟩) (by assumption) ?_
        (try simp only [Act.put, List.setIfInBounds_toArray, List.set_cons_zero, List.set_cons_succ])
        refine wpAnyH_take (i := 4) (oi := { dst := some 34, op := Op.load 9 (Operand.tmp 33), type := 9, pos := "mean.go:30", after := #[{ on := 3, ground := Ground.data }, { on := 1, ground := Ground.guard }], guard := some (1, true) }) (v := undef) rfl (by kernel_rfl) (by kernel_rfl) (by kernel_rfl) (fun _ _ _ h => h) (Or.inr ⟨by kernel_rfl, rfl⟩) (by assumption) ?_
        (try simp only [Act.put, List.setIfInBounds_toArray, List.set_cons_zero, List.set_cons_succ])
        refine wpAnyH_take (i := 5) (oi := { dst := some 35, op := Op.call { callee := Callee.value (Operand.func 47), args := #[Operand.tmp 32, Operand.tmp 34], argTypes := #[66, 9] }, type := 4, pos := "mean.go:30", after := #[{ on := 2, ground := Ground.data }, { on := 4, ground := Ground.data }, { on := 1, ground := Ground.chain }, { on := 1, ground := Ground.guard }], guard := some (1, true) }) (v := undef) rfl (by kernel_rfl) (by kernel_rfl) (by kernel_rfl) (fun _ _ _ h => h) (Or.inr ⟨by kernel_rfl, rfl⟩) (by assumption) ?_
        (try simp only [Act.put, List.setIfInBounds_toArray, List.set_cons_zero, List.set_cons_succ])
        refine wpAnyH_take (i := 6) (oi := { dst := some 36, op := Op.pick (Operand.tmp 31) (Operand.tmp 35) (Operand.const (Value.bool false)), type := 4, pos := "mean.go:30", after := #[{ on := 1, ground := Ground.data }, { on := 5, ground := Ground.data }], guard := none }) (v := .bool false) rfl (by kernel_rfl) (by kernel_rfl) (by kernel_rfl) (fun _ _ _ h => h) (Or.inl ⟨by kernel_rfl, fun w hSw => ?_⟩) (by assumption) ?_
        · (try dsimp only at hSw); go_simp
        (try simp only [Act.put, List.setIfInBounds_toArray, List.set_cons_zero, List.set_cons_succ])
        refine wpAnyH_take (i := 7) (oi := { dst := some 37, op := Op.move (Operand.tmp 36), type := 4, pos := "mean.go:30", after := #[{ on := 6, ground := Ground.data }, { on := 5, ground := Ground.chain }], guard := none }) (v := .bool false) rfl (by kernel_rfl) (by kernel_rfl) (by kernel_rfl) (fun _ _ _ h => h) (Or.inl ⟨by kernel_rfl, fun w hSw => ?_⟩) (by assumption) ?_
        · (try dsimp only at hSw); go_simp
        (try simp only [Act.put, List.setIfInBounds_toArray, List.set_cons_zero, List.set_cons_succ])
        refine wpAnyH_take (i := 8) (oi := { dst := some 38, op := Op.load 27 (Operand.tmp 4), type := 27, pos := "mean.go:30", after := #[{ on := 7, ground := Ground.guard }], guard := some (7, true) }) (v := undef) rfl (by kernel_rfl) (by kernel_rfl) (by kernel_rfl) (fun _ _ _ h => h) (Or.inr ⟨by kernel_rfl, rfl⟩) (by assumption) ?_
        (try simp only [Act.put, List.setIfInBounds_toArray, List.set_cons_zero, List.set_cons_succ])
        refine wpAnyH_take (i := 9) (oi := { dst := some 39, op := Op.fieldAddr 66 (Operand.tmp 8) 1, type := 0, pos := "mean.go:30", after := #[{ on := 7, ground := Ground.guard }], guard := some (7, true) }) (v := undef) rfl (by kernel_rfl) (by kernel_rfl) (by kernel_rfl) (fun _ _ _ h => h) (Or.inr ⟨by kernel_rfl, rfl⟩) (by assumption) ?_
        (try simp only [Act.put, List.setIfInBounds_toArray, List.set_cons_zero, List.set_cons_succ])
        refine wpAnyH_take (i := 10) (oi := { dst := some 40, op := Op.load 24 (Operand.tmp 39), type := 24, pos := "mean.go:30", after := #[{ on := 9, ground := Ground.data }, { on := 7, ground := Ground.guard }], guard := some (7, true) }) (v := undef) rfl (by kernel_rfl) (by kernel_rfl) (by kernel_rfl) (fun _ _ _ h => h) (Or.inr ⟨by kernel_rfl, rfl⟩) (by assumption) ?_
        (try simp only [Act.put, List.setIfInBounds_toArray, List.set_cons_zero, List.set_cons_succ])
        refine wpAnyH_take (i := 11) (oi := { dst := some 41, op := Op.call { callee := Callee.value (Operand.func 16), args := #[Operand.tmp 38, Operand.tmp 40], argTypes := #[27, 24] }, type := 4, pos := "mean.go:30", after := #[{ on := 8, ground := Ground.data }, { on := 10, ground := Ground.data }, { on := 7, ground := Ground.chain }, { on := 7, ground := Ground.guard }], guard := some (7, true) }) (v := undef) rfl (by kernel_rfl) (by kernel_rfl) (by kernel_rfl) (fun _ _ _ h => h) (Or.inr ⟨by kernel_rfl, rfl⟩) (by assumption) ?_
        (try simp only [Act.put, List.setIfInBounds_toArray, List.set_cons_zero, List.set_cons_succ])
        refine wpAnyH_take (i := 12) (oi := { dst := some 42, op := Op.pick (Operand.tmp 37) (Operand.tmp 41) (Operand.const (Value.bool false)), type := 4, pos := "mean.go:30", after := #[{ on := 7, ground := Ground.data }, { on := 11, ground := Ground.data }], guard := none }) (v := .bool false) rfl (by kernel_rfl) (by kernel_rfl) (by kernel_rfl) (fun _ _ _ h => h) (Or.inl ⟨by kernel_rfl, fun w hSw => ?_⟩) (by assumption) ?_
        · (try dsimp only at hSw); go_simp
        (try simp only [Act.put, List.setIfInBounds_toArray, List.set_cons_zero, List.set_cons_succ])
        refine wpAnyH_take (i := 13) (oi := { dst := some 43, op := Op.move (Operand.tmp 42), type := 4, pos := "mean.go:30", after := #[{ on := 12, ground := Ground.data }, { on := 11, ground := Ground.chain }], guard := none }) (v := .bool false) rfl (by kernel_rfl) (by kernel_rfl) (by kernel_rfl) (fun _ _ _ h => h) (Or.inl ⟨by kernel_rfl, fun w hSw => ?_⟩) (by assumption) ?_
        · (try dsimp only at hSw); go_simp
        (try simp only [Act.put, List.setIfInBounds_toArray, List.set_cons_zero, List.set_cons_succ])
        refine wpAnyH_take (i := 14) (oi := { dst := some 44, op := Op.load 34 (Operand.tmp 3), type := 34, pos := "mean.go:30", after := #[{ on := 13, ground := Ground.guard }], guard := some (13, true) }) (v := undef) rfl (by kernel_rfl) (by kernel_rfl) (by kernel_rfl) (fun _ _ _ h => h) (Or.inr ⟨by kernel_rfl, rfl⟩) (by assumption) ?_
        (try simp only [Act.put, List.setIfInBounds_toArray, List.set_cons_zero, List.set_cons_succ])
        refine wpAnyH_take (i := 15) (oi := { dst := some 45, op := Op.fieldAddr 36 (Operand.tmp 5) 1, type := 0, pos := "mean.go:30", after := #[{ on := 13, ground := Ground.guard }], guard := some (13, true) }) (v := undef) rfl (by kernel_rfl) (by kernel_rfl) (by kernel_rfl) (fun _ _ _ h => h) (Or.inr ⟨by kernel_rfl, rfl⟩) (by assumption) ?_
        (try simp only [Act.put, List.setIfInBounds_toArray, List.set_cons_zero, List.set_cons_succ])
        refine wpAnyH_take (i := 16) (oi := { dst := some 46, op := Op.load 9 (Operand.tmp 45), type := 9, pos := "mean.go:30", after := #[{ on := 15, ground := Ground.data }, { on := 13, ground := Ground.guard }], guard := some (13, true) }) (v := undef) rfl (by kernel_rfl) (by kernel_rfl) (by kernel_rfl) (fun _ _ _ h => h) (Or.inr ⟨by kernel_rfl, rfl⟩) (by assumption) ?_
        (try simp only [Act.put, List.setIfInBounds_toArray, List.set_cons_zero, List.set_cons_succ])
        refine wpAnyH_take (i := 17) (oi := { dst := some 47, op := Op.call { callee := Callee.value (Operand.func 48), args := #[Operand.tmp 44, Operand.tmp 46], argTypes := #[34, 9] }, type := 66, pos := "mean.go:30", after := #[{ on := 14, ground := Ground.data }, { on := 16, ground := Ground.data }, { on := 13, ground := Ground.chain }, { on := 13, ground := Ground.guard }], guard := some (13, true) }) (v := undef) rfl (by kernel_rfl) (by kernel_rfl) (by kernel_rfl) (fun _ _ _ h => h) (Or.inr ⟨by kernel_rfl, rfl⟩) (by assumption) ?_
        (try simp only [Act.put, List.setIfInBounds_toArray, List.set_cons_zero, List.set_cons_succ])
        refine wpAnyH_take (i := 18) (oi := { dst := some 48, op := Op.fieldAddr 27 (Operand.tmp 4) 2, type := 0, pos := "mean.go:30", after := #[{ on := 13, ground := Ground.guard }], guard := some (13, true) }) (v := undef) rfl (by kernel_rfl) (by kernel_rfl) (by kernel_rfl) (fun _ _ _ h => h) (Or.inr ⟨by kernel_rfl, rfl⟩) (by assumption) ?_
        (try simp only [Act.put, List.setIfInBounds_toArray, List.set_cons_zero, List.set_cons_succ])
        refine wpAnyH_take (i := 19) (oi := { dst := some 49, op := Op.load 9 (Operand.tmp 48), type := 9, pos := "mean.go:30", after := #[{ on := 18, ground := Ground.data }, { on := 13, ground := Ground.guard }], guard := some (13, true) }) (v := undef) rfl (by kernel_rfl) (by kernel_rfl) (by kernel_rfl) (fun _ _ _ h => h) (Or.inr ⟨by kernel_rfl, rfl⟩) (by assumption) ?_
        (try simp only [Act.put, List.setIfInBounds_toArray, List.set_cons_zero, List.set_cons_succ])
        refine wpAnyH_take (i := 20) (oi := { dst := some 50, op := Op.call { callee := Callee.value (Operand.func 47), args := #[Operand.tmp 47, Operand.tmp 49], argTypes := #[66, 9] }, type := 4, pos := "mean.go:30", after := #[{ on := 17, ground := Ground.data }, { on := 19, ground := Ground.data }, { on := 17, ground := Ground.chain }, { on := 13, ground := Ground.guard }], guard := some (13, true) }) (v := undef) rfl (by kernel_rfl) (by kernel_rfl) (by kernel_rfl) (fun _ _ _ h => h) (Or.inr ⟨by kernel_rfl, rfl⟩) (by assumption) ?_
        (try simp only [Act.put, List.setIfInBounds_toArray, List.set_cons_zero, List.set_cons_succ])
        refine wpAnyH_take (i := 21) (oi := { dst := some 51, op := Op.pick (Operand.tmp 43) (Operand.tmp 50) (Operand.const (Value.bool false)), type := 4, pos := "mean.go:30", after := #[{ on := 13, ground := Ground.data }, { on := 20, ground := Ground.data }], guard := none }) (v := .bool false) rfl (by kernel_rfl) (by kernel_rfl) (by kernel_rfl) (fun _ _ _ h => h) (Or.inl ⟨by kernel_rfl, fun w hSw => ?_⟩) (by assumption) ?_
        · (try dsimp only at hSw); go_simp
        (try simp only [Act.put, List.setIfInBounds_toArray, List.set_cons_zero, List.set_cons_succ])
        refine wpAnyH_take (i := 22) (oi := { dst := some 6, op := Op.assign (Operand.tmp 51), type := 4, pos := "mean.go:30", after := #[{ on := 21, ground := Ground.data }, { on := 20, ground := Ground.chain }, { on := 0, ground := Ground.phase }, { on := 1, ground := Ground.phase }, { on := 2, ground := Ground.phase }, { on := 3, ground := Ground.phase }, { on := 4, ground := Ground.phase }, { on := 5, ground := Ground.phase }, { on := 6, ground := Ground.phase }, { on := 7, ground := Ground.phase }, { on := 8, ground := Ground.phase }, { on := 9, ground := Ground.phase }, { on := 10, ground := Ground.phase }, { on := 11, ground := Ground.phase }, { on := 12, ground := Ground.phase }, { on := 13, ground := Ground.phase }, { on := 14, ground := Ground.phase }, { on := 15, ground := Ground.phase }, { on := 16, ground := Ground.phase }, { on := 17, ground := Ground.phase }, { on := 18, ground := Ground.phase }, { on := 19, ground := Ground.phase }, { on := 20, ground := Ground.phase }, { on := 21, ground := Ground.phase }], guard := none }) (v := .bool false) rfl (by kernel_rfl) (by kernel_rfl) (by kernel_rfl) (fun _ _ _ h => h) (Or.inl ⟨by kernel_rfl, fun w hSw => ?_⟩) (by assumption) ?_
        · (try dsimp only at hSw); go_simp
        (try simp only [Act.put, List.setIfInBounds_toArray, List.set_cons_zero, List.set_cons_succ])
        refine wpAnyH_done (by kernel_rfl) ?_ _
        go_wp2_with fail
        go_ret
        exact ⟨by rw [hm.out]; rfl, (hw2.out _).trans ⟨rfl, rfl, rfl, Nat.le_refl _, fun _ _ => rfl⟩⟩
end U
end Go.Proofs.Ytdhmommfmmiieaa
