import Derived.Test.YtdhmommfmmiieaaMtc
set_option linter.unusedVariables false
set_option linter.unusedSimpArgs false
namespace Go.Proofs.Ytdhmommfmmiieaa
open Go.RowKit Go.Maps
namespace U
set_option maxRecDepth 100000 in
set_option maxHeartbeats 2000000 in
/-- the document's 'about': whos, whats and a trust against a rule -/
theorem about_any (R : Ru) (wo : Option Addr) (wc : Nat) (ws : List ByteArray) (t : Nat) (ao : Option Addr) (ac : Nat) (zs : List ByteArray) (w : World) (h1 : S.Ints wo ws w) (hw : ws.length ≤ wc) (h2 : S.Ints ao zs w) (ha : zs.length ≤ ac) (hz : Hid (ws.length < 4398046511104 ∧ zs.length < 4398046511104)) :
    Calls Try.prog 51 #[R.val, .slice wo ws.length wc, .float .f64 t, .slice ao zs.length ac] w fun e w' => e = .returned (.bool (isIn ws R.who && isIn zs R.what && M.pass R.cd R.lv t)) ∧ Below w.heap.size w w' := by
  have hRv : Hid (R.val = .agg #[R.d, .string R.who, .string R.what, .slice R.ro R.rl.length R.rc, .int .i8 R.cd, .float .f64 R.lv]) := rfl
  rw [hRv.out]
  go_enter Try.func51, Try.ntmps51
  go_wp2_with fail
  have f1 := heap_alloc_new w (.cells #[R.d, .string R.who, .string R.what, .slice R.ro R.rl.length R.rc, .int .i8 R.cd, .float .f64 R.lv] 27)
  have bV : Below w.heap.size w (w.alloc (.cells #[R.d, .string R.who, .string R.what, .slice R.ro R.rl.length R.rc, .int .i8 R.cd, .float .f64 R.lv] 27)) := (Below.refl _ _).alloc (Nat.le_refl _) _
  generalize w.alloc (.cells #[R.d, .string R.who, .string R.what, .slice R.ro R.rl.length R.rc, .int .i8 R.cd, .float .f64 R.lv] 27) = V at *
  have HW := hide' (h1.below bV)
  have HA := hide' (h2.below bV)
  have HbV := hide' bV
  have e0 : V.cell? ⟨w.heap.size, 0, none⟩ = some R.d := by rw [Lib.cell_of_heap f1]; rfl
  have e1 : V.cell? ⟨w.heap.size, 1, none⟩ = some (.string R.who) := by rw [Lib.cell_of_heap f1]; rfl
  have e2 : V.cell? ⟨w.heap.size, 2, none⟩ = some (.string R.what) := by rw [Lib.cell_of_heap f1]; rfl
  have e3 : V.cell? ⟨w.heap.size, 3, none⟩ = some (.slice R.ro R.rl.length R.rc) := by rw [Lib.cell_of_heap f1]; rfl
  have e4 : V.cell? ⟨w.heap.size, 4, none⟩ = some (.int .i8 R.cd) := by rw [Lib.cell_of_heap f1]; rfl
  have e5 : V.cell? ⟨w.heap.size, 5, none⟩ = some (.float .f64 R.lv) := by rw [Lib.cell_of_heap f1]; rfl
  clear f1 bV h1 h2
  refine (S.in_any wo wc ws R.who V HW.out hw hz.out.1).mono ?_
  rintro e V1 ⟨rfl, rfl⟩
  rename World => V
  go_wp2_with fail
  refine (S.in_any ao ac zs R.what V HA.out ha hz.out.2).mono ?_
  rintro e V1 ⟨rfl, rfl⟩
  rename World => V
  go_wp2_with fail
  refine (M.rpasses_any R.d (.string R.who) (.string R.what) (.slice R.ro R.rl.length R.rc) R.cd R.lv t V).mono ?_
  rintro e w1 ⟨rfl, b1⟩
  have hb := hide' (HbV.out.trans (b1.mono HbV.out.size))
  clear b1 e0 e1 e2 e3 e4 e5
  cases x1 : isIn ws R.who <;> cases x2 : isIn zs R.what <;> cases x3 : M.pass R.cd R.lv t <;>
    (go_wp2_with fail; go_ret; exact ⟨by rw [x1, x2, x3]; rfl, hb.out⟩)
end U
end Go.Proofs.Ytdhmommfmmiieaa
set_option linter.unusedVariables false
set_option linter.unusedSimpArgs false
namespace Go.Proofs.Ytdhmommfmmiieaa
open Go.RowKit Go.Maps
namespace U
/-- the trust of a name, and whether it is there -/
def trv (P : Po) (z : ByteArray) : Value := match tru P.sl z with | some t => .tuple #[.float .f64 t, .bool true] | none => .tuple #[.float .f64 0, .bool false]
set_option maxRecDepth 100000 in
set_option maxHeartbeats 2000000 in
theorem trust_any (P : Po) (z : ByteArray) (w : World) (h : P.In w) (hs : P.Small) : Calls Try.prog 49 #[P.val, .string z] w fun e w' => e = .returned (trv P z) ∧ Below w.heap.size w w' := by
  have hs64 : (P.sl.length : Int) ≤ 1048576 := by have := hs.s; omega
  have hPv : Hid (P.val = .agg #[.slice P.ao P.al.length P.ac, .slice P.so P.sl.length P.sc, P.ro, .slice P.oo P.ol.length P.oc, P.gr, .slice P.m.1 P.m.2.2.length P.m.2.1, .slice P.i.1 P.i.2.2.length P.i.2.1, .slice P.p.1 P.p.2.2.length P.p.2.1, .slice P.w.1 P.w.2.2.length P.w.2.1, P.ru, P.ex]) := rfl
  have hsc := h.sc
  rw [hPv.out]
  go_enter Try.func49, Try.ntmps49
  go_wp2_with fail
  have f1 := heap_alloc_new w (.cells #[.slice P.ao P.al.length P.ac, .slice P.so P.sl.length P.sc, P.ro, .slice P.oo P.ol.length P.oc, P.gr, .slice P.m.1 P.m.2.2.length P.m.2.1, .slice P.i.1 P.i.2.2.length P.i.2.1, .slice P.p.1 P.p.2.2.length P.p.2.1, .slice P.w.1 P.w.2.2.length P.w.2.1, P.ru, P.ex] 34)
  have bV : Below w.heap.size w (w.alloc (.cells #[.slice P.ao P.al.length P.ac, .slice P.so P.sl.length P.sc, P.ro, .slice P.oo P.ol.length P.oc, P.gr, .slice P.m.1 P.m.2.2.length P.m.2.1, .slice P.i.1 P.i.2.2.length P.i.2.1, .slice P.p.1 P.p.2.2.length P.p.2.1, .slice P.w.1 P.w.2.2.length P.w.2.1, P.ru, P.ex] 34)) := (Below.refl _ _).alloc (Nat.le_refl _) _
  generalize w.alloc (.cells #[.slice P.ao P.al.length P.ac, .slice P.so P.sl.length P.sc, P.ro, .slice P.oo P.ol.length P.oc, P.gr, .slice P.m.1 P.m.2.2.length P.m.2.1, .slice P.i.1 P.i.2.2.length P.i.2.1, .slice P.p.1 P.p.2.2.length P.p.2.1, .slice P.w.1 P.w.2.2.length P.w.2.1, P.ru, P.ex] 34) = V at *
  have e1 : V.cell? ⟨w.heap.size, 1, none⟩ = some (.slice P.so P.sl.length P.sc) := by rw [Lib.cell_of_heap f1]; rfl
  have HS := hide' (h.s.below bV)
  have HbV := hide' bV
  clear f1 bV h hs
  go_loopw [6] (fun iv wx => ∃ j : Nat, iv = .int .i64 (j : Int) ∧ j ≤ P.sl.length ∧ (∀ i, i < j → ∀ k', P.sl[i]? = some k' → k'.1 ≠ z) ∧ wx = V) (fun iv _ => P.sl.length - (intOf iv).toNat)
  case atStart => exact ⟨0, rfl, by omega, fun i hi => by omega, rfl⟩
  case round =>
    obtain ⟨j, rfl, hjl, hno, rfl⟩ := hrel
    by_cases hlt : j < P.sl.length
    · have hlt' : (j : Int) < (P.sl.length : Int) := by omega
      obtain ⟨k, hk⟩ : ∃ k, P.sl[j]? = some k := ⟨_, List.getElem?_eq_getElem hlt⟩
      obtain ⟨b, off, hso, hb, d0, d1⟩ := HS.out.at hk
      rw [hso] at e1
      have HN := hide' (And.intro hno hk)
      clear hno hk hso
      by_cases hz : k.1 = z
      · have hzH := hide' hz
        have he1 : (k.1.toList == z.toList) = true := by rw [hz]; exact text_eq z
        clear hz
        have hT : Hid (trv P z = .tuple #[.float .f64 k.2, .bool true]) := by show _ = _; unfold trv; rw [tru_some HN.out.2 hzH.out HN.out.1]
        go_wp2_with fail
        go_ret2
        exact ⟨by rw [hT.out]; rfl, HbV.out⟩
      · have he1 := text_ne hz
        have hzH := hide' hz
        clear hz
        go_wp2_with fail
        refine ⟨⟨j + 1, by go_num, by omega, fun i hi k' hk' => ?_, trivial⟩, by simp [intOf]; omega⟩
        rcases Nat.lt_or_ge i j with q | q
        · exact HN.out.1 i q k' hk'
        · have : i = j := by omega
          subst this
          rw [HN.out.2] at hk'
          cases hk'
          exact hzH.out
    · have hkl : j = P.sl.length := by omega
      have hlt' : ¬ (j : Int) < (P.sl.length : Int) := by omega
      have hT : Hid (trv P z = .tuple #[.float .f64 0, .bool false]) := by
        show _ = _; unfold trv
        rw [tru_none (fun i k hk => hno i (by rw [hkl]; exact (List.getElem?_eq_some_iff.1 hk).1) k hk)]
      clear hno hkl
      go_wp2_with fail
      go_ret2
      exact ⟨by rw [hT.out]; rfl, HbV.out⟩
end U
end Go.Proofs.Ytdhmommfmmiieaa
set_option linter.unusedVariables false
set_option linter.unusedSimpArgs false
namespace Go.Proofs.Ytdhmommfmmiieaa
open Go.RowKit Go.Maps
namespace U
set_option maxRecDepth 100000 in
set_option maxHeartbeats 8000000 in
theorem rmatches_any (P : Po) (R : Ru) (ts to ta : ByteArray) (w : World) (h : P.In w) (hs : P.Small) (hr : S.Ints R.ro R.rl w) (hrc : R.rl.length ≤ R.rc) (hz : ts.size ≤ 1048576 ∧ to.size ≤ 1048576 ∧ R.who.size ≤ 1048576 ∧ R.what.size ≤ 1048576 ∧ R.rl.length ≤ 1048576) :
    Calls Try.prog 20 #[P.val, R.val, .agg #[.string ts, .string to, .string ta]] w fun e w' => e = .returned (.bool (mtc P R ts to ta)) ∧ Below w.heap.size w w' := by
  have hsf : ∀ (a : Addr) (k : FloatKind) (b : Nat) (m : Mode) (w : World), (store a (.float k b) m).run Try.prog w = stored Try.prog w a (.float k b) m := fun a k b m w => run_store Try.prog w a _ m rfl
  have H := hide' h
  have Hs := hide' hs
  have Hr := hide' hr
  have hac := h.ac
  have hr64 : (R.rl.length : Int) ≤ 1048576 := by omega
  clear h hs hr
  have hPv : Hid (P.val = .agg #[.slice P.ao P.al.length P.ac, .slice P.so P.sl.length P.sc, P.ro, .slice P.oo P.ol.length P.oc, P.gr, .slice P.m.1 P.m.2.2.length P.m.2.1, .slice P.i.1 P.i.2.2.length P.i.2.1, .slice P.p.1 P.p.2.2.length P.p.2.1, .slice P.w.1 P.w.2.2.length P.w.2.1, P.ru, P.ex]) := rfl
  have hRv : Hid (R.val = .agg #[R.d, .string R.who, .string R.what, .slice R.ro R.rl.length R.rc, .int .i8 R.cd, .float .f64 R.lv]) := rfl
  rw [hPv.out, hRv.out]
  go_enter Try.func20, Try.ntmps20
  go_wp2_with fail
  obtain ⟨V, hV⟩ : ∃ V, V = (((w.alloc (.cells #[.slice P.ao P.al.length P.ac, .slice P.so P.sl.length P.sc, P.ro, .slice P.oo P.ol.length P.oc, P.gr, .slice P.m.1 P.m.2.2.length P.m.2.1, .slice P.i.1 P.i.2.2.length P.i.2.1, .slice P.p.1 P.p.2.2.length P.p.2.1, .slice P.w.1 P.w.2.2.length P.w.2.1, P.ru, P.ex] 34)).alloc (.cells #[R.d, .string R.who, .string R.what, .slice R.ro R.rl.length R.rc, .int .i8 R.cd, .float .f64 R.lv] 27)).alloc (.cells #[.string ts, .string to, .string ta] 36)) := ⟨_, rfl⟩
  rw [← hV]
  have F : Hid (V.heap.size = w.heap.size + 3 ∧ Below w.heap.size w V ∧ V.heap[w.heap.size]? = some (.cells #[.slice P.ao P.al.length P.ac, .slice P.so P.sl.length P.sc, P.ro, .slice P.oo P.ol.length P.oc, P.gr, .slice P.m.1 P.m.2.2.length P.m.2.1, .slice P.i.1 P.i.2.2.length P.i.2.1, .slice P.p.1 P.p.2.2.length P.p.2.1, .slice P.w.1 P.w.2.2.length P.w.2.1, P.ru, P.ex] 34 (0, 0)) ∧ V.heap[w.heap.size + 1]? = some (.cells #[R.d, .string R.who, .string R.what, .slice R.ro R.rl.length R.rc, .int .i8 R.cd, .float .f64 R.lv] 27 (0, 0)) ∧ V.heap[w.heap.size + 1 + 1]? = some (.cells #[.string ts, .string to, .string ta] 36 (0, 0))) := by
    generalize (.cells #[.slice P.ao P.al.length P.ac, .slice P.so P.sl.length P.sc, P.ro, .slice P.oo P.ol.length P.oc, P.gr, .slice P.m.1 P.m.2.2.length P.m.2.1, .slice P.i.1 P.i.2.2.length P.i.2.1, .slice P.p.1 P.p.2.2.length P.p.2.1, .slice P.w.1 P.w.2.2.length P.w.2.1, P.ru, P.ex] 34 : Obj) = o1 at *
    generalize (.cells #[R.d, .string R.who, .string R.what, .slice R.ro R.rl.length R.rc, .int .i8 R.cd, .float .f64 R.lv] 27 : Obj) = o2 at *
    have a1 := heap_alloc_new w o1
    have a2 := heap_alloc_new (w.alloc o1) o2
    have a3 := heap_alloc_new ((w.alloc o1).alloc o2) (.cells #[.string ts, .string to, .string ta] 36)
    have z1 : (w.alloc o1).heap.size = w.heap.size + 1 := by simp
    have z2 : ((w.alloc o1).alloc o2).heap.size = w.heap.size + 1 + 1 := by simp
    rw [z1] at a2
    rw [z2] at a3
    rw [hV]
    exact ⟨by simp, (((Below.refl _ _).alloc (Nat.le_refl _) _).alloc (by simp) _).alloc (by simp; omega) _, (Below.heap_alloc _ _ _ (by omega)).trans ((Below.heap_alloc _ _ _ (by omega)).trans a1), (Below.heap_alloc _ _ _ (by omega)).trans a2, a3⟩
  clear hV
  obtain ⟨sV, bV, f1, f2, f3⟩ := F.out
  have HI := hide' (H.out.below bV)
  have HR := hide' (Hr.out.below bV)
  have HbV := hide' bV
  obtain ⟨q0, hq0⟩ : ∃ q0, q0 = w.heap.size := ⟨_, rfl⟩
  generalize hq2 : w.heap.size + 1 + 1 = q2 at *
  generalize hq1 : w.heap.size + 1 = q1 at *
  rw [← hq0]
  rw [← hq0] at f1
  have hls : q0 < V.heap.size ∧ q1 < V.heap.size ∧ q2 < V.heap.size := ⟨by omega, by omega, by omega⟩
  have K1 : V.cell? ⟨q0, 0, none⟩ = some (.slice P.ao P.al.length P.ac) ∧ V.cell? ⟨q0, 1, none⟩ = some (.slice P.so P.sl.length P.sc) ∧ V.cell? ⟨q0, 2, none⟩ = some P.ro ∧ V.cell? ⟨q0, 3, none⟩ = some (.slice P.oo P.ol.length P.oc) ∧ V.cell? ⟨q0, 4, none⟩ = some P.gr ∧ V.cell? ⟨q0, 5, none⟩ = some (.slice P.m.1 P.m.2.2.length P.m.2.1) ∧ V.cell? ⟨q0, 6, none⟩ = some (.slice P.i.1 P.i.2.2.length P.i.2.1) ∧ V.cell? ⟨q0, 7, none⟩ = some (.slice P.p.1 P.p.2.2.length P.p.2.1) ∧ V.cell? ⟨q0, 8, none⟩ = some (.slice P.w.1 P.w.2.2.length P.w.2.1) ∧ V.cell? ⟨q0, 9, none⟩ = some P.ru ∧ V.cell? ⟨q0, 10, none⟩ = some P.ex ∧ V.cell? ⟨q1, 0, none⟩ = some R.d ∧ V.cell? ⟨q1, 1, none⟩ = some (.string R.who) ∧ V.cell? ⟨q1, 2, none⟩ = some (.string R.what) ∧ V.cell? ⟨q1, 3, none⟩ = some (.slice R.ro R.rl.length R.rc) ∧ V.cell? ⟨q1, 4, none⟩ = some (.int .i8 R.cd) ∧ V.cell? ⟨q1, 5, none⟩ = some (.float .f64 R.lv) ∧ V.cell? ⟨q2, 0, none⟩ = some (.string ts) ∧ V.cell? ⟨q2, 1, none⟩ = some (.string to) ∧ V.cell? ⟨q2, 2, none⟩ = some (.string ta) := ⟨by rw [Lib.cell_of_heap f1]; rfl, by rw [Lib.cell_of_heap f1]; rfl, by rw [Lib.cell_of_heap f1]; rfl, by rw [Lib.cell_of_heap f1]; rfl, by rw [Lib.cell_of_heap f1]; rfl, by rw [Lib.cell_of_heap f1]; rfl, by rw [Lib.cell_of_heap f1]; rfl, by rw [Lib.cell_of_heap f1]; rfl, by rw [Lib.cell_of_heap f1]; rfl, by rw [Lib.cell_of_heap f1]; rfl, by rw [Lib.cell_of_heap f1]; rfl, by rw [Lib.cell_of_heap f2]; rfl, by rw [Lib.cell_of_heap f2]; rfl, by rw [Lib.cell_of_heap f2]; rfl, by rw [Lib.cell_of_heap f2]; rfl, by rw [Lib.cell_of_heap f2]; rfl, by rw [Lib.cell_of_heap f2]; rfl, by rw [Lib.cell_of_heap f3]; rfl, by rw [Lib.cell_of_heap f3]; rfl, by rw [Lib.cell_of_heap f3]; rfl⟩
  have KS : Hid (∀ w', Below V.heap.size V w' → w'.cell? ⟨q0, 0, none⟩ = some (.slice P.ao P.al.length P.ac) ∧ w'.cell? ⟨q0, 1, none⟩ = some (.slice P.so P.sl.length P.sc) ∧ w'.cell? ⟨q0, 2, none⟩ = some P.ro ∧ w'.cell? ⟨q0, 3, none⟩ = some (.slice P.oo P.ol.length P.oc) ∧ w'.cell? ⟨q0, 4, none⟩ = some P.gr ∧ w'.cell? ⟨q0, 5, none⟩ = some (.slice P.m.1 P.m.2.2.length P.m.2.1) ∧ w'.cell? ⟨q0, 6, none⟩ = some (.slice P.i.1 P.i.2.2.length P.i.2.1) ∧ w'.cell? ⟨q0, 7, none⟩ = some (.slice P.p.1 P.p.2.2.length P.p.2.1) ∧ w'.cell? ⟨q0, 8, none⟩ = some (.slice P.w.1 P.w.2.2.length P.w.2.1) ∧ w'.cell? ⟨q0, 9, none⟩ = some P.ru ∧ w'.cell? ⟨q0, 10, none⟩ = some P.ex ∧ w'.cell? ⟨q1, 0, none⟩ = some R.d ∧ w'.cell? ⟨q1, 1, none⟩ = some (.string R.who) ∧ w'.cell? ⟨q1, 2, none⟩ = some (.string R.what) ∧ w'.cell? ⟨q1, 3, none⟩ = some (.slice R.ro R.rl.length R.rc) ∧ w'.cell? ⟨q1, 4, none⟩ = some (.int .i8 R.cd) ∧ w'.cell? ⟨q1, 5, none⟩ = some (.float .f64 R.lv) ∧ w'.cell? ⟨q2, 0, none⟩ = some (.string ts) ∧ w'.cell? ⟨q2, 1, none⟩ = some (.string to) ∧ w'.cell? ⟨q2, 2, none⟩ = some (.string ta)) := fun w' b => ⟨(b.cell (p := ⟨q0, 0, none⟩) hls.1).trans K1.1, (b.cell (p := ⟨q0, 1, none⟩) hls.1).trans K1.2.1, (b.cell (p := ⟨q0, 2, none⟩) hls.1).trans K1.2.2.1, (b.cell (p := ⟨q0, 3, none⟩) hls.1).trans K1.2.2.2.1, (b.cell (p := ⟨q0, 4, none⟩) hls.1).trans K1.2.2.2.2.1, (b.cell (p := ⟨q0, 5, none⟩) hls.1).trans K1.2.2.2.2.2.1, (b.cell (p := ⟨q0, 6, none⟩) hls.1).trans K1.2.2.2.2.2.2.1, (b.cell (p := ⟨q0, 7, none⟩) hls.1).trans K1.2.2.2.2.2.2.2.1, (b.cell (p := ⟨q0, 8, none⟩) hls.1).trans K1.2.2.2.2.2.2.2.2.1, (b.cell (p := ⟨q0, 9, none⟩) hls.1).trans K1.2.2.2.2.2.2.2.2.2.1, (b.cell (p := ⟨q0, 10, none⟩) hls.1).trans K1.2.2.2.2.2.2.2.2.2.2.1, (b.cell (p := ⟨q1, 0, none⟩) hls.2.1).trans K1.2.2.2.2.2.2.2.2.2.2.2.1, (b.cell (p := ⟨q1, 1, none⟩) hls.2.1).trans K1.2.2.2.2.2.2.2.2.2.2.2.2.1, (b.cell (p := ⟨q1, 2, none⟩) hls.2.1).trans K1.2.2.2.2.2.2.2.2.2.2.2.2.2.1, (b.cell (p := ⟨q1, 3, none⟩) hls.2.1).trans K1.2.2.2.2.2.2.2.2.2.2.2.2.2.2.1, (b.cell (p := ⟨q1, 4, none⟩) hls.2.1).trans K1.2.2.2.2.2.2.2.2.2.2.2.2.2.2.2.1, (b.cell (p := ⟨q1, 5, none⟩) hls.2.1).trans K1.2.2.2.2.2.2.2.2.2.2.2.2.2.2.2.2.1, (b.cell (p := ⟨q2, 0, none⟩) hls.2.2).trans K1.2.2.2.2.2.2.2.2.2.2.2.2.2.2.2.2.2.1, (b.cell (p := ⟨q2, 1, none⟩) hls.2.2).trans K1.2.2.2.2.2.2.2.2.2.2.2.2.2.2.2.2.2.2.1, (b.cell (p := ⟨q2, 2, none⟩) hls.2.2).trans K1.2.2.2.2.2.2.2.2.2.2.2.2.2.2.2.2.2.2.2⟩
  have hlsH := hide' hls
  clear F sV bV f1 f2 f3 hq0 hq1 hq2 hls H Hr
  have K1H := hide' K1
  obtain ⟨e0, e1, e2, e3, e4, e5, e6, e7, e8, e9, e10, e11, e12, e13, e14, e15, e16, e17, e18, e19⟩ := K1
  have C49 := hide' (trust_any P ts V HI.out Hs.out)
  rw [hPv.out] at C49
  refine C49.out.mono ?_
  rintro e w1 ⟨rfl, b1⟩
  have HI1 := hide' (HI.out.below b1)
  have HR1 := hide' (HR.out.below b1)
  have Hb1 := hide' (HbV.out.trans (b1.mono HbV.out.size))
  have KS1 : Hid (∀ w', Below w1.heap.size w1 w' → w'.cell? ⟨q0, 0, none⟩ = some (.slice P.ao P.al.length P.ac) ∧ w'.cell? ⟨q0, 1, none⟩ = some (.slice P.so P.sl.length P.sc) ∧ w'.cell? ⟨q0, 2, none⟩ = some P.ro ∧ w'.cell? ⟨q0, 3, none⟩ = some (.slice P.oo P.ol.length P.oc) ∧ w'.cell? ⟨q0, 4, none⟩ = some P.gr ∧ w'.cell? ⟨q0, 5, none⟩ = some (.slice P.m.1 P.m.2.2.length P.m.2.1) ∧ w'.cell? ⟨q0, 6, none⟩ = some (.slice P.i.1 P.i.2.2.length P.i.2.1) ∧ w'.cell? ⟨q0, 7, none⟩ = some (.slice P.p.1 P.p.2.2.length P.p.2.1) ∧ w'.cell? ⟨q0, 8, none⟩ = some (.slice P.w.1 P.w.2.2.length P.w.2.1) ∧ w'.cell? ⟨q0, 9, none⟩ = some P.ru ∧ w'.cell? ⟨q0, 10, none⟩ = some P.ex ∧ w'.cell? ⟨q1, 0, none⟩ = some R.d ∧ w'.cell? ⟨q1, 1, none⟩ = some (.string R.who) ∧ w'.cell? ⟨q1, 2, none⟩ = some (.string R.what) ∧ w'.cell? ⟨q1, 3, none⟩ = some (.slice R.ro R.rl.length R.rc) ∧ w'.cell? ⟨q1, 4, none⟩ = some (.int .i8 R.cd) ∧ w'.cell? ⟨q1, 5, none⟩ = some (.float .f64 R.lv) ∧ w'.cell? ⟨q2, 0, none⟩ = some (.string ts) ∧ w'.cell? ⟨q2, 1, none⟩ = some (.string to) ∧ w'.cell? ⟨q2, 2, none⟩ = some (.string ta)) := fun w' b => KS.out w' (b1.trans (b.mono b1.size))
  clear e0 e1 e2 e3 e4 e5 e6 e7 e8 e9 e10 e11 e12 e13 e14 e15 e16 e17 e18 e19 K1H KS b1 HI HR HbV C49
  obtain ⟨e0, e1, e2, e3, e4, e5, e6, e7, e8, e9, e10, e11, e12, e13, e14, e15, e16, e17, e18, e19⟩ := KS1.out w1 (Below.refl _ _)
  have Co := hide' (S.in_any P.oo P.oc P.ol to w1 HI1.out.o HI1.out.oc (by show _ < _; have := Hs.out.o; omega))
  have Ca := hide' (S.in_any P.ao P.ac P.al ta w1 HI1.out.a HI1.out.ac (by show _ < _; have := Hs.out.a; omega))
  cases ht : tru P.sl ts with
  | none =>
    have hv : trv P ts = .tuple #[.float .f64 0, .bool false] := by unfold trv; rw [ht]
    have hm : Hid (mtc P R ts to ta = false) := by show _ = _; unfold mtc; rw [ht]; simp
    rw [hv]
    go_wp2_with fail
    refine Co.out.mono ?_
    rintro e V1 ⟨rfl, rfl⟩
    rename World => w1
    go_wp2_with fail
    refine Ca.out.mono ?_
    rintro e V1 ⟨rfl, rfl⟩
    rename World => w1
    go_wp2_with fail
    go_ret
    exact ⟨by rw [hm.out]; rfl, Hb1.out⟩
  | some t =>
    have hv : trv P ts = .tuple #[.float .f64 t, .bool true] := by unfold trv; rw [ht]
    rw [hv]
    go_wp2_with fail
    refine Co.out.mono ?_
    rintro e V1 ⟨rfl, rfl⟩
    rename World => w1
    go_wp2_with fail
    refine Ca.out.mono ?_
    rintro e V1 ⟨rfl, rfl⟩
    rename World => w1
    cases ho : isIn P.ol to with
    | false =>
      have hm : Hid (mtc P R ts to ta = false) := by show _ = _; unfold mtc; rw [ho]; simp
      go_wp2_with fail
      go_ret
      exact ⟨by rw [hm.out]; rfl, Hb1.out⟩
    | true =>
      cases ha : isIn P.al ta with
      | false =>
        have hm : Hid (mtc P R ts to ta = false) := by show _ = _; unfold mtc; rw [ha]; simp
        go_wp2_with fail
        go_ret
        exact ⟨by rw [hm.out]; rfl, Hb1.out⟩
      | true =>
        have hd : Below w1.heap.size w1 w1.drew := ⟨rfl, rfl, rfl, Nat.le_refl _, fun _ _ => rfl⟩
        have C52 := hide' (fun v (b : Below w1.heap.size w1 v) => N.rups_any P.m.1 P.i.1 P.m.2.1 P.i.2.1 P.m.2.2 P.i.2.2 ts v (HI1.out.below b).m.1 (HI1.out.below b).i.1 (HI1.out.below b).m.2 (HI1.out.below b).i.2 Hs.out.mi)
        have C52w := hide' (fun v (b : Below w1.heap.size w1 v) => N.rups_any P.p.1 P.w.1 P.p.2.1 P.w.2.1 P.p.2.2 P.w.2.2 to v (HI1.out.below b).p.1 (HI1.out.below b).w.1 (HI1.out.below b).p.2 (HI1.out.below b).w.2 Hs.out.pw)
        have HMI := hide' Hs.out.mi
        have HPW := hide' Hs.out.pw
        clear Co Ca
        go_wp2_with fail
        go_region_held3 (fun w' => w'.cell? ⟨q0, 0, none⟩ = some (.slice P.ao P.al.length P.ac) ∧ w'.cell? ⟨q0, 1, none⟩ = some (.slice P.so P.sl.length P.sc) ∧ w'.cell? ⟨q0, 2, none⟩ = some P.ro ∧ w'.cell? ⟨q0, 3, none⟩ = some (.slice P.oo P.ol.length P.oc) ∧ w'.cell? ⟨q0, 4, none⟩ = some P.gr ∧ w'.cell? ⟨q0, 5, none⟩ = some (.slice P.m.1 P.m.2.2.length P.m.2.1) ∧ w'.cell? ⟨q0, 6, none⟩ = some (.slice P.i.1 P.i.2.2.length P.i.2.1) ∧ w'.cell? ⟨q0, 7, none⟩ = some (.slice P.p.1 P.p.2.2.length P.p.2.1) ∧ w'.cell? ⟨q0, 8, none⟩ = some (.slice P.w.1 P.w.2.2.length P.w.2.1) ∧ w'.cell? ⟨q0, 9, none⟩ = some P.ru ∧ w'.cell? ⟨q0, 10, none⟩ = some P.ex ∧ w'.cell? ⟨q1, 0, none⟩ = some R.d ∧ w'.cell? ⟨q1, 1, none⟩ = some (.string R.who) ∧ w'.cell? ⟨q1, 2, none⟩ = some (.string R.what) ∧ w'.cell? ⟨q1, 3, none⟩ = some (.slice R.ro R.rl.length R.rc) ∧ w'.cell? ⟨q1, 4, none⟩ = some (.int .i8 R.cd) ∧ w'.cell? ⟨q1, 5, none⟩ = some (.float .f64 R.lv) ∧ w'.cell? ⟨q2, 0, none⟩ = some (.string ts) ∧ w'.cell? ⟨q2, 1, none⟩ = some (.string to) ∧ w'.cell? ⟨q2, 2, none⟩ = some (.string ta)) (first | exact KS1.out _ hd | exact KS1.out _ b14 | exact KS1.out _ b13 | exact KS1.out _ b12 | go_keep) (first
          | (have G := C51; clear G; go_at_call 51; refine C51.out.mono ?_; rintro e w4 ⟨rfl, b4⟩; have b14 : Below w1.heap.size w1 w4 := b13.trans (b4.mono b13.size); clear b4)
          | ((fail_if_success (have G := b12)); go_at_call 52; refine (C52.out _ hd).mono ?_; rintro e w2 ⟨l, lo, lc, rfl, hL, hl, hn, b2⟩; have b12 : Below w1.heap.size w1 w2 := ⟨b2.os, b2.tape, b2.output, b2.size, b2.block⟩; have G2 := hide' (And.intro hL (And.intro hl hn)); clear hL hl hn b2)
          | (go_at_call 52; refine (C52w.out w2 b12).mono ?_; rintro e w3 ⟨l3, lo3, lc3, rfl, hL, hl, hn, b3⟩; have b13 : Below w1.heap.size w1 w3 := b12.trans (b3.mono b12.size); have G3 := hide' (And.intro hL (And.intro hl hn)); have C51 := hide' (about_any R lo lc l t lo3 lc3 l3 w3 (G2.out.1.ints.below b3) G2.out.1.cap G3.out.1.ints G3.out.1.cap (by show _ ∧ _; have a := G2.out.2.2; have b := G3.out.2.2; have c := HMI.out; have d := HPW.out; rw [List.length_append] at a b; omega)); rw [hRv.out] at C51; clear hL hl hn b3))
        have hb := hide' (Hb1.out.trans (b14.mono Hb1.out.size))
        have Cr := hide' (S.in_any R.ro R.rc R.rl ta w4 (HR1.out.below b14) hrc (by show _ < _; omega))
        have X1 := isIn_iff G2.out.2.1 R.who
        have X2 := isIn_iff G3.out.2.1 R.what
        have hm : Hid (mtc P R ts to ta = ((isIn l R.who && isIn l3 R.what && M.pass R.cd R.lv t) && (R.rl.isEmpty || isIn R.rl ta))) := by
          show _ = _
          unfold mtc
          rw [ht, ho, ha, X1, X2]
          simp only [Bool.true_and]
          cases isIn (N.clo (P.m.2.2 ++ P.i.2.2) ts) R.who <;> cases isIn (N.clo (P.p.2.2 ++ P.w.2.2) to) R.what <;> cases M.pass R.cd R.lv t <;> cases (R.rl.isEmpty || isIn R.rl ta) <;> rfl
        clear e0 e1 e2 e3 e4 e5 e6 e7 e8 e9 e10 e11 e12 e13 e14 e15 e16 e17 e18 e19 X1 X2 C52 C52w
        obtain ⟨e0, e1, e2, e3, e4, e5, e6, e7, e8, e9, e10, e11, e12, e13, e14, e15, e16, e17, e18, e19⟩ := KS1.out w4 b14
        go_wp2_with fail
        refine Cr.out.mono ?_
        rintro e V1 ⟨rfl, rfl⟩
        rename World => w4
        cases hp : (isIn l R.who && isIn l3 R.what && M.pass R.cd R.lv t) with
        | false =>
          go_wp2_with fail
          go_ret
          exact ⟨by rw [hm.out, hp]; rfl, hb.out⟩
        | true =>
          by_cases hemp : R.rl.length = 0
          · have hemp' : (R.rl.length : Int) = 0 := by omega
            have hi : Hid (R.rl.isEmpty = true) := List.isEmpty_iff_length_eq_zero.2 hemp
            go_wp2_with fail
            go_ret
            exact ⟨by rw [hm.out, hp, hi.out]; rfl, hb.out⟩
          · have hemp' : ¬ (R.rl.length : Int) = 0 := by omega
            have hi : Hid (R.rl.isEmpty = false) := by
              show _ = _
              cases e : R.rl.isEmpty with
              | false => rfl
              | true => exact absurd (List.isEmpty_iff_length_eq_zero.1 e) hemp
            go_wp2_with fail
            go_ret
            exact ⟨by rw [hm.out, hp, hi.out]; show Ending.returned (.bool (((R.rl.length : Int) == 0) || isIn R.rl ta)) = _; rw [beq_eq_false_iff_ne.2 hemp']; rfl, hb.out⟩
end U
end Go.Proofs.Ytdhmommfmmiieaa
