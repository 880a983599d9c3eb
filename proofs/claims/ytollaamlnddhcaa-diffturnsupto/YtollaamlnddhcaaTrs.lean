import Derived.Test.YtollaamlnddhcaaAbt
set_option linter.unusedVariables false
set_option linter.unusedSimpArgs false
namespace Go.Proofs.Ytollaamlnddhcaa
open Go.RowKit Go.Maps
namespace U
/-- the trust of a name, and whether it is there -/
def trv (P : Po) (z : ByteArray) : Value := match tru P.sl z with | some t => .tuple #[.float .f64 t, .bool true] | none => .tuple #[.float .f64 0, .bool false]
set_option maxRecDepth 100000 in
set_option maxHeartbeats 2000000 in
theorem trust_any (P : Po) (z : ByteArray) (w : World) (h : P.In w) (hs : P.Small) : Calls Try.prog 56 #[P.val, .string z] w fun e w' => e = .returned (trv P z) ∧ Below w.heap.size w w' := by
  have hs64 : (P.sl.length : Int) ≤ 1048576 := by have := hs.s; omega
  have hPv : Hid (P.val = .agg #[.slice P.ao P.al.length P.ac, .slice P.so P.sl.length P.sc, P.ro, .slice P.oo P.ol.length P.oc, P.gr, .slice P.m.1 P.m.2.2.length P.m.2.1, .slice P.i.1 P.i.2.2.length P.i.2.1, .slice P.p.1 P.p.2.2.length P.p.2.1, .slice P.w.1 P.w.2.2.length P.w.2.1, P.ru, P.ex]) := rfl
  have hsc := h.sc
  rw [hPv.out]
  go_enter Try.func56, Try.ntmps56
  go_wp2_with fail
  have f1 := heap_alloc_new w (.cells #[.slice P.ao P.al.length P.ac, .slice P.so P.sl.length P.sc, P.ro, .slice P.oo P.ol.length P.oc, P.gr, .slice P.m.1 P.m.2.2.length P.m.2.1, .slice P.i.1 P.i.2.2.length P.i.2.1, .slice P.p.1 P.p.2.2.length P.p.2.1, .slice P.w.1 P.w.2.2.length P.w.2.1, P.ru, P.ex] 28)
  have bV : Below w.heap.size w (w.alloc (.cells #[.slice P.ao P.al.length P.ac, .slice P.so P.sl.length P.sc, P.ro, .slice P.oo P.ol.length P.oc, P.gr, .slice P.m.1 P.m.2.2.length P.m.2.1, .slice P.i.1 P.i.2.2.length P.i.2.1, .slice P.p.1 P.p.2.2.length P.p.2.1, .slice P.w.1 P.w.2.2.length P.w.2.1, P.ru, P.ex] 28)) := (Below.refl _ _).alloc (Nat.le_refl _) _
  generalize w.alloc (.cells #[.slice P.ao P.al.length P.ac, .slice P.so P.sl.length P.sc, P.ro, .slice P.oo P.ol.length P.oc, P.gr, .slice P.m.1 P.m.2.2.length P.m.2.1, .slice P.i.1 P.i.2.2.length P.i.2.1, .slice P.p.1 P.p.2.2.length P.p.2.1, .slice P.w.1 P.w.2.2.length P.w.2.1, P.ru, P.ex] 28) = V at *
  have e1 : V.cell? ⟨w.heap.size, 1, none⟩ = some (.slice P.so P.sl.length P.sc) := by rw [Lib.cell_of_heap f1]; rfl
  have HS := hide' (h.s.below bV)
  have HbV := hide' bV
  clear f1 bV h hs
  go_loopw [6] (fun iv wx => ∃ j : Nat, iv = .int .i64 (j : Int) ∧ j ≤ P.sl.length ∧ (∀ i, i < j → ∀ k', P.sl[i]? = some k' → k'.1 ≠ z) ∧ wx = V) (fun iv _ => P.sl.length - (intOf iv).toNat)
  case atStart => exact ⟨0, rfl, by omega, fun i hi => by omega, rfl⟩
  case round =>
    obtain ⟨j, rfl, hjl, hno, rfl⟩ := hrel
    by_cases hlt : j < P.sl.length
    · have hlt' : (j : Int) < (P.sl.length : Int) := by omega
      obtain ⟨k, hk⟩ : ∃ k, P.sl[j]? = some k := ⟨_, List.getElem?_eq_getElem hlt⟩
      obtain ⟨b, off, hso, hb, d0, d1⟩ := HS.out.at hk
      rw [hso] at e1
      have HN := hide' (And.intro hno hk)
      clear hno hk hso
      by_cases hz : k.1 = z
      · have hzH := hide' hz
        have he1 : (k.1.toList == z.toList) = true := by rw [hz]; exact text_eq z
        clear hz
        have hT : Hid (trv P z = .tuple #[.float .f64 k.2, .bool true]) := by show _ = _; unfold trv; rw [tru_some HN.out.2 hzH.out HN.out.1]
        go_wp2_with fail
        go_ret2
        exact ⟨by rw [hT.out]; rfl, HbV.out⟩
      · have he1 := text_ne hz
        have hzH := hide' hz
        clear hz
        go_wp2_with fail
        refine ⟨⟨j + 1, by go_num, by omega, fun i hi k' hk' => ?_, trivial⟩, by simp [intOf]; omega⟩
        rcases Nat.lt_or_ge i j with q | q
        · exact HN.out.1 i q k' hk'
        · have : i = j := by omega
          subst this
          rw [HN.out.2] at hk'
          cases hk'
          exact hzH.out
    · have hkl : j = P.sl.length := by omega
      have hlt' : ¬ (j : Int) < (P.sl.length : Int) := by omega
      have hT : Hid (trv P z = .tuple #[.float .f64 0, .bool false]) := by
        show _ = _; unfold trv
        rw [tru_none (fun i k hk => hno i (by rw [hkl]; exact (List.getElem?_eq_some_iff.1 hk).1) k hk)]
      clear hno hkl
      go_wp2_with fail
      go_ret2
      exact ⟨by rw [hT.out]; rfl, HbV.out⟩
end U
end Go.Proofs.Ytollaamlnddhcaa
