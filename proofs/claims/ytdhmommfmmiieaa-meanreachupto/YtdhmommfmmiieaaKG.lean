import Derived.Test.YtdhmommfmmiieaaMml
import Derived.Deep.RegionHeld3
set_option linter.unusedVariables false
set_option linter.unusedSimpArgs false
namespace Go.Proofs.Ytdhmommfmmiieaa
open Go.RowKit Go.Maps
namespace U
/-- does a triple stand among the excepts? -/
def exq (t z : X.K3) : Bool := decide (z.1 = t.1) && decide (z.2.1 = t.2.1) && decide (z.2.2 = t.2.2)
def exc (xs : List X.K3) (t : X.K3) : Bool := xs.any (exq t)
theorem exc_take {xs : List X.K3} {t : X.K3} {k : Nat} {z : X.K3} (h : exc (xs.take k) t = false) (hz : xs[k]? = some z) (hn : exq t z = false) : exc (xs.take (k + 1)) t = false := by
  unfold exc at *
  rw [List.take_add_one, hz, List.any_append, h]
  simp [hn]
theorem exc_hit {xs : List X.K3} {t : X.K3} {k : Nat} (hz : xs[k]? = some t) : exc xs t = true := by
  unfold exc
  rw [List.any_eq_true]
  exact ⟨t, List.mem_of_getElem? hz, by simp [exq]⟩
/-- a policy and a triple in boxes -/
structure Bx (F : Pf) (ts to ta : ByteArray) (q2 q3 : Nat) (w V : World) : Prop where
  b : Below w.heap.size w V
  h2 : V.heap[q2]? = some (.cells #[.slice F.a.1 F.a.2.2.length F.a.2.1, .slice F.s.1 F.s.2.2.length F.s.2.1, .slice F.r.1 F.r.2.2.length F.r.2.1, .slice F.o.1 F.o.2.2.length F.o.2.1, .slice F.g.1 F.g.2.2.length F.g.2.1, .slice F.m.1 F.m.2.2.length F.m.2.1, .slice F.i.1 F.i.2.2.length F.i.2.1, .slice F.p.1 F.p.2.2.length F.p.2.1, .slice F.w.1 F.w.2.2.length F.w.2.1, .slice F.u.1 F.u.2.2.length F.u.2.1, .slice F.x.1 F.x.2.2.length F.x.2.1] 34 (0, 0))
  h3 : V.heap[q3]? = some (.cells #[.string ts, .string to, .string ta] 36 (0, 0))
theorem Bx.below {F : Pf} {ts to ta : ByteArray} {q2 q3 : Nat} {w V V' : World} (h : Bx F ts to ta q2 q3 w V) (t : Below V.heap.size V V') : Bx F ts to ta q2 q3 w V' :=
  ⟨h.b.trans (t.mono h.b.size), (t.block _ (lt_of_heap h.h2)).trans h.h2, (t.block _ (lt_of_heap h.h3)).trans h.h3⟩
theorem Bx.drewN {F : Pf} {ts to ta : ByteArray} {q2 q3 : Nat} {w V : World} (h : Bx F ts to ta q2 q3 w V) (n : Nat) : Bx F ts to ta q2 q3 w (V.drewN n) := h.below ⟨rfl, rfl, rfl, Nat.le_refl _, fun _ _ => rfl⟩
theorem Bx.mk2 (F : Pf) (ts to ta : ByteArray) (w : World) : Bx F ts to ta w.heap.size (w.heap.size + 1) w ((w.alloc (.cells #[.slice F.a.1 F.a.2.2.length F.a.2.1, .slice F.s.1 F.s.2.2.length F.s.2.1, .slice F.r.1 F.r.2.2.length F.r.2.1, .slice F.o.1 F.o.2.2.length F.o.2.1, .slice F.g.1 F.g.2.2.length F.g.2.1, .slice F.m.1 F.m.2.2.length F.m.2.1, .slice F.i.1 F.i.2.2.length F.i.2.1, .slice F.p.1 F.p.2.2.length F.p.2.1, .slice F.w.1 F.w.2.2.length F.w.2.1, .slice F.u.1 F.u.2.2.length F.u.2.1, .slice F.x.1 F.x.2.2.length F.x.2.1] 34)).alloc (.cells #[.string ts, .string to, .string ta] 36)) := by
  have a1 := heap_alloc_new w (.cells #[.slice F.a.1 F.a.2.2.length F.a.2.1, .slice F.s.1 F.s.2.2.length F.s.2.1, .slice F.r.1 F.r.2.2.length F.r.2.1, .slice F.o.1 F.o.2.2.length F.o.2.1, .slice F.g.1 F.g.2.2.length F.g.2.1, .slice F.m.1 F.m.2.2.length F.m.2.1, .slice F.i.1 F.i.2.2.length F.i.2.1, .slice F.p.1 F.p.2.2.length F.p.2.1, .slice F.w.1 F.w.2.2.length F.w.2.1, .slice F.u.1 F.u.2.2.length F.u.2.1, .slice F.x.1 F.x.2.2.length F.x.2.1] 34)
  have a2 := heap_alloc_new (w.alloc (.cells #[.slice F.a.1 F.a.2.2.length F.a.2.1, .slice F.s.1 F.s.2.2.length F.s.2.1, .slice F.r.1 F.r.2.2.length F.r.2.1, .slice F.o.1 F.o.2.2.length F.o.2.1, .slice F.g.1 F.g.2.2.length F.g.2.1, .slice F.m.1 F.m.2.2.length F.m.2.1, .slice F.i.1 F.i.2.2.length F.i.2.1, .slice F.p.1 F.p.2.2.length F.p.2.1, .slice F.w.1 F.w.2.2.length F.w.2.1, .slice F.u.1 F.u.2.2.length F.u.2.1, .slice F.x.1 F.x.2.2.length F.x.2.1] 34)) (.cells #[.string ts, .string to, .string ta] 36)
  have z1 : (w.alloc (.cells #[.slice F.a.1 F.a.2.2.length F.a.2.1, .slice F.s.1 F.s.2.2.length F.s.2.1, .slice F.r.1 F.r.2.2.length F.r.2.1, .slice F.o.1 F.o.2.2.length F.o.2.1, .slice F.g.1 F.g.2.2.length F.g.2.1, .slice F.m.1 F.m.2.2.length F.m.2.1, .slice F.i.1 F.i.2.2.length F.i.2.1, .slice F.p.1 F.p.2.2.length F.p.2.1, .slice F.w.1 F.w.2.2.length F.w.2.1, .slice F.u.1 F.u.2.2.length F.u.2.1, .slice F.x.1 F.x.2.2.length F.x.2.1] 34)).heap.size = w.heap.size + 1 := by simp
  rw [z1] at a2
  exact ⟨((Below.refl _ _).alloc (Nat.le_refl _) _).alloc (by simp) _, (Below.heap_alloc _ _ _ (by omega)).trans a1, a2⟩
set_option maxRecDepth 100000 in
set_option maxHeartbeats 4000000 in
theorem excepted_any (F : Pf) (ts to ta : ByteArray) (w : World) (h : F.In w) (hs : F.Small) : Calls Try.prog 57 #[.agg #[.slice F.a.1 F.a.2.2.length F.a.2.1, .slice F.s.1 F.s.2.2.length F.s.2.1, .slice F.r.1 F.r.2.2.length F.r.2.1, .slice F.o.1 F.o.2.2.length F.o.2.1, .slice F.g.1 F.g.2.2.length F.g.2.1, .slice F.m.1 F.m.2.2.length F.m.2.1, .slice F.i.1 F.i.2.2.length F.i.2.1, .slice F.p.1 F.p.2.2.length F.p.2.1, .slice F.w.1 F.w.2.2.length F.w.2.1, .slice F.u.1 F.u.2.2.length F.u.2.1, .slice F.x.1 F.x.2.2.length F.x.2.1], .agg #[.string ts, .string to, .string ta]] w fun e w' => e = .returned (.bool (exc F.x.2.2 (ts, to, ta))) ∧ Below w.heap.size w w' := by
  have H := hide' h
  have hxl : (F.x.2.2.length : Int) ≤ 1048576 := by have := hs.x; omega
  clear h hs
  go_enter Try.func57, Try.ntmps57
  go_wp2_with fail
  have B0 := hide' (Bx.mk2 F ts to ta w)
  obtain ⟨q2, hq2⟩ : ∃ q2, q2 = w.heap.size := ⟨_, rfl⟩
  generalize hq3 : w.heap.size + 1 = q3 at *
  rw [← hq2]
  rw [← hq2] at B0
  clear hq2 hq3
  go_loopw [5] (fun iv wx => ∃ k : Nat, iv = .int .i64 (k : Int) ∧ k ≤ F.x.2.2.length ∧ Hid (exc (F.x.2.2.take k) (ts, to, ta) = false) ∧ Hid (Bx F ts to ta q2 q3 w wx)) (fun iv _ => F.x.2.2.length - (intOf iv).toNat)
  case atStart => exact ⟨0, rfl, Nat.zero_le _, by show _ = _; simp [exc], B0⟩
  case round =>
    obtain ⟨k, rfl, hk, HN, UU⟩ := hrel
    clear B0
    have IN := hide' (H.out.below UU.out.b)
    have cx := IN.out.x.2.1
    have e2 : wr.cell? ⟨q2, 10, none⟩ = some (.slice F.x.1 F.x.2.2.length F.x.2.1) := by rw [Lib.cell_of_heap UU.out.h2]; rfl
    have t0 : wr.cell? ⟨q3, 0, none⟩ = some (.string ts) := by rw [Lib.cell_of_heap UU.out.h3]; rfl
    have t1 : wr.cell? ⟨q3, 1, none⟩ = some (.string to) := by rw [Lib.cell_of_heap UU.out.h3]; rfl
    have t2 : wr.cell? ⟨q3, 2, none⟩ = some (.string ta) := by rw [Lib.cell_of_heap UU.out.h3]; rfl
    by_cases hlt : k < F.x.2.2.length
    · have hlt' : (k : Int) < (F.x.2.2.length : Int) := by omega
      have hk64 : (k : Int) < 1048577 := by omega
      obtain ⟨z, hz⟩ : ∃ z, F.x.2.2[k]? = some z := ⟨_, List.getElem?_eq_getElem hlt⟩
      obtain ⟨y, off, hy, _, d1, d2, d3⟩ := IN.out.x.1.at hz
      rw [hy] at e2
      have HZ := hide' hz
      obtain ⟨z1, z2, z3⟩ := z
      simp only at d1 d2 d3
      clear hy IN hz
      by_cases h1 : z1 = ts
      · by_cases h2 : z2 = to
        · by_cases h3 : z3 = ta
          · subst h1 h2 h3
            have g1 := text_eq z1
            have g2 := text_eq z2
            have g3 := text_eq z3
            go_wp2_with fail
            go_quiet (fail)
            go_wp2_with fail
            go_ret
            exact ⟨by rw [exc_hit HZ.out]; rfl, UU.out.b.trans ⟨rfl, rfl, rfl, Nat.le_refl _, fun _ _ => rfl⟩⟩
          · subst h1 h2
            have g1 := text_eq z1
            have g2 := text_eq z2
            have g3 := text_ne h3
            have HN2 := hide' (exc_take HN.out HZ.out (by simp [exq, h3]))
            go_wp2_with fail
            go_quiet (fail)
            go_wp2_with fail
            exact ⟨⟨k + 1, by go_num, by omega, HN2, UU.out.drewN nq⟩, by simp [intOf]; omega⟩
        · subst h1
          have g1 := text_eq z1
          have g2 := text_ne h2
          have HN2 := hide' (exc_take HN.out HZ.out (by simp [exq, h2]))
          go_wp2_with fail
          go_quiet (fail)
          go_wp2_with fail
          exact ⟨⟨k + 1, by go_num, by omega, HN2, UU.out.drewN nq⟩, by simp [intOf]; omega⟩
      · have g1 := text_ne h1
        have HN2 := hide' (exc_take HN.out HZ.out (by simp [exq, h1]))
        go_wp2_with fail
        go_quiet (fail)
        go_wp2_with fail
        exact ⟨⟨k + 1, by go_num, by omega, HN2, UU.out.drewN nq⟩, by simp [intOf]; omega⟩
    · have hkl : k = F.x.2.2.length := by omega
      subst hkl
      have hlt' : ¬ (F.x.2.2.length : Int) < (F.x.2.2.length : Int) := by omega
      go_wp2_with fail
      go_ret
      exact ⟨by have q := HN.out; rw [List.take_length] at q; rw [q]; rfl, UU.out.b⟩
end U
end Go.Proofs.Ytdhmommfmmiieaa
set_option linter.unusedVariables false
set_option linter.unusedSimpArgs false
namespace Go.Proofs.Ytdhmommfmmiieaa
open Go.RowKit Go.Maps
namespace U
def den (R : Ru) : Bool := match R.d with | .bool b => b | _ => false
/-- a rule that matches, and allows (or denies) -/
def rsay (F : Pf) (ts to ta : ByteArray) (dn : Bool) (R : Ru) : Bool := mtc F.po R ts to ta && (den R == dn)
def rany (F : Pf) (ts to ta : ByteArray) (dn : Bool) (us : List Ru) : Bool := us.any (rsay F ts to ta dn)
/-- 8.3 -/
def alw (F : Pf) (ts to ta : ByteArray) : Bool := rany F ts to ta false F.u.2.2 && !rany F ts to ta true F.u.2.2 && !exc F.x.2.2 (ts, to, ta)
theorem rany_take {F : Pf} {ts to ta : ByteArray} {dn : Bool} {us : List Ru} {k : Nat} {R : Ru} (h : us[k]? = some R) : rany F ts to ta dn (us.take (k + 1)) = (rany F ts to ta dn (us.take k) || rsay F ts to ta dn R) := by
  unfold rany
  rw [List.take_add_one, h, List.any_append]
  simp
set_option maxRecDepth 100000 in
set_option maxHeartbeats 4000000 in
theorem rallows_any (F : Pf) (ts to ta : ByteArray) (w : World) (h : F.In w) (hs : F.Small) (hps : F.po.Small) (hu : ∀ R ∈ F.u.2.2, R.who.size ≤ 1048576 ∧ R.what.size ≤ 1048576) (hz : ts.size ≤ 1048576 ∧ to.size ≤ 1048576) : Calls Try.prog 23 #[.agg #[.slice F.a.1 F.a.2.2.length F.a.2.1, .slice F.s.1 F.s.2.2.length F.s.2.1, .slice F.r.1 F.r.2.2.length F.r.2.1, .slice F.o.1 F.o.2.2.length F.o.2.1, .slice F.g.1 F.g.2.2.length F.g.2.1, .slice F.m.1 F.m.2.2.length F.m.2.1, .slice F.i.1 F.i.2.2.length F.i.2.1, .slice F.p.1 F.p.2.2.length F.p.2.1, .slice F.w.1 F.w.2.2.length F.w.2.1, .slice F.u.1 F.u.2.2.length F.u.2.1, .slice F.x.1 F.x.2.2.length F.x.2.1], .agg #[.string ts, .string to, .string ta]] w fun e w' => e = .returned (.bool (alw F ts to ta)) ∧ Below w.heap.size w w' := by
  have H := hide' h
  have Hs := hide' hs
  have Hp := hide' hps
  have Hu := hide' hu
  have Hz := hide' hz
  have hul : (F.u.2.2.length : Int) ≤ 1048576 := by have := hs.u; omega
  clear h hs hps hu hz
  go_enter Try.func23, Try.ntmps23
  go_wp2_with fail
  have B0 := hide' (Bx.mk2 F ts to ta w)
  obtain ⟨q2, hq2⟩ : ∃ q2, q2 = w.heap.size := ⟨_, rfl⟩
  generalize hq3 : w.heap.size + 1 = q3 at *
  rw [← hq2]
  rw [← hq2] at B0
  clear hq2 hq3
  go_loopw [5, 6, 7] (fun av dv iv wx => ∃ n : Nat, iv = .int .i64 (n : Int) ∧ n ≤ F.u.2.2.length ∧ av = .bool (rany F ts to ta false (F.u.2.2.take n)) ∧ dv = .bool (rany F ts to ta true (F.u.2.2.take n)) ∧ Hid (Bx F ts to ta q2 q3 w wx)) (fun _ _ iv _ => F.u.2.2.length - (intOf iv).toNat)
  case atStart => exact ⟨0, rfl, Nat.zero_le _, by simp [rany], by simp [rany], B0⟩
  case round =>
    obtain ⟨n, rfl, hn, rfl, rfl, UU⟩ := hrel
    clear B0
    have IN := hide' (H.out.below UU.out.b)
    have cu := IN.out.u.2.1
    have e2 : wr.cell? ⟨q2, 9, none⟩ = some (.slice F.u.1 F.u.2.2.length F.u.2.1) := by rw [Lib.cell_of_heap UU.out.h2]; rfl
    by_cases hlt : n < F.u.2.2.length
    · have hlt' : (n : Int) < (F.u.2.2.length : Int) := by omega
      have hn64 : (n : Int) < 1048577 := by omega
      obtain ⟨R, hR⟩ : ∃ R, F.u.2.2[n]? = some R := ⟨_, List.getElem?_eq_getElem hlt⟩
      obtain ⟨ub, uoff, huo, hub, hc⟩ := IN.out.u.1.1.at (show (F.u.2.2.map Ru.cells)[n]? = some R.cells by rw [List.getElem?_map, hR]; rfl)
      obtain ⟨hRo, ⟨bv, hbv⟩, hRl⟩ := IN.out.u.1.2 R (List.mem_of_getElem? hR)
      have hRu := Hu.out R (List.mem_of_getElem? hR)
      have ta1 := hide' (rany_take (F := F) (ts := ts) (to := to) (ta := ta) (dn := false) hR)
      have ta2 := hide' (rany_take (F := F) (ts := ts) (to := to) (ta := ta) (dn := true) hR)
      have RS : Hid (∀ dn, rsay F ts to ta dn R = (mtc F.po R ts to ta && (bv == dn))) := fun dn => by unfold rsay den; rw [hbv]
      rw [RS.out] at ta1 ta2
      have C20 : Hid (∀ V, Below wr.heap.size wr V → Calls Try.prog 20 #[.agg #[.slice F.a.1 F.a.2.2.length F.a.2.1, .slice F.s.1 F.s.2.2.length F.s.2.1, .slice F.r.1 F.r.2.2.length F.r.2.1, .slice F.o.1 F.o.2.2.length F.o.2.1, .slice F.g.1 F.g.2.2.length F.g.2.1, .slice F.m.1 F.m.2.2.length F.m.2.1, .slice F.i.1 F.i.2.2.length F.i.2.1, .slice F.p.1 F.p.2.2.length F.p.2.1, .slice F.w.1 F.w.2.2.length F.w.2.1, .slice F.u.1 F.u.2.2.length F.u.2.1, .slice F.x.1 F.x.2.2.length F.x.2.1], R.val, .agg #[.string ts, .string to, .string ta]] V fun e w' => e = .returned (.bool (mtc F.po R ts to ta)) ∧ Below V.heap.size V w') := fun V b => rmatches_any F.po R ts to ta V ((IN.out.below b).po) Hp.out (hRo.1.below b) hRo.2.1 ⟨Hz.out.1, Hz.out.2, hRu.1, hRu.2, hRl⟩
      generalize mtc F.po R ts to ta = mv at *
      generalize rany F ts to ta false (F.u.2.2.take n) = va at *
      generalize rany F ts to ta true (F.u.2.2.take n) = vd at *
      unfold Ru.val at C20
      rw [huo] at C20 e2
      obtain ⟨d, who, what, ro, rc, rl, cd, lv⟩ := R
      simp only at hbv C20
      subst hbv
      have KT : Hid (∀ V, Below wr.heap.size wr V → V.cell? ⟨q2, 0, none⟩ = some (.slice F.a.1 F.a.2.2.length F.a.2.1) ∧ V.cell? ⟨q2, 1, none⟩ = some (.slice F.s.1 F.s.2.2.length F.s.2.1) ∧ V.cell? ⟨q2, 2, none⟩ = some (.slice F.r.1 F.r.2.2.length F.r.2.1) ∧ V.cell? ⟨q2, 3, none⟩ = some (.slice F.o.1 F.o.2.2.length F.o.2.1) ∧ V.cell? ⟨q2, 4, none⟩ = some (.slice F.g.1 F.g.2.2.length F.g.2.1) ∧ V.cell? ⟨q2, 5, none⟩ = some (.slice F.m.1 F.m.2.2.length F.m.2.1) ∧ V.cell? ⟨q2, 6, none⟩ = some (.slice F.i.1 F.i.2.2.length F.i.2.1) ∧ V.cell? ⟨q2, 7, none⟩ = some (.slice F.p.1 F.p.2.2.length F.p.2.1) ∧ V.cell? ⟨q2, 8, none⟩ = some (.slice F.w.1 F.w.2.2.length F.w.2.1) ∧ V.cell? ⟨q2, 9, none⟩ = some (.slice (some ⟨ub, uoff, none⟩) F.u.2.2.length F.u.2.1) ∧ V.cell? ⟨q2, 10, none⟩ = some (.slice F.x.1 F.x.2.2.length F.x.2.1) ∧ V.cell? ⟨ub, uoff + n * 6, none⟩ = some (.bool bv) ∧ V.cell? ⟨ub, uoff + n * 6 + 1, none⟩ = some (.string who) ∧ V.cell? ⟨ub, uoff + n * 6 + 2, none⟩ = some (.string what) ∧ V.cell? ⟨ub, uoff + n * 6 + 3, none⟩ = some (.slice ro rl.length rc) ∧ V.cell? ⟨ub, uoff + n * 6 + 4, none⟩ = some (.int .i8 cd) ∧ V.cell? ⟨ub, uoff + n * 6 + 5, none⟩ = some (.float .f64 lv) ∧ V.cell? ⟨q3, 0, none⟩ = some (.string ts) ∧ V.cell? ⟨q3, 1, none⟩ = some (.string to) ∧ V.cell? ⟨q3, 2, none⟩ = some (.string ta)) := fun V b => by
        have g2 := (b.block _ (lt_of_heap UU.out.h2)).trans UU.out.h2
        have g3 := (b.block _ (lt_of_heap UU.out.h3)).trans UU.out.h3
        rw [huo] at g2
        exact ⟨by rw [Lib.cell_of_heap g2]; rfl, by rw [Lib.cell_of_heap g2]; rfl, by rw [Lib.cell_of_heap g2]; rfl, by rw [Lib.cell_of_heap g2]; rfl, by rw [Lib.cell_of_heap g2]; rfl, by rw [Lib.cell_of_heap g2]; rfl, by rw [Lib.cell_of_heap g2]; rfl, by rw [Lib.cell_of_heap g2]; rfl, by rw [Lib.cell_of_heap g2]; rfl, by rw [Lib.cell_of_heap g2]; rfl, by rw [Lib.cell_of_heap g2]; rfl, (b.cell (p := ⟨ub, uoff + n * 6, none⟩) hub).trans (hc 0 _ rfl), (b.cell (p := ⟨ub, uoff + n * 6 + 1, none⟩) hub).trans (hc 1 _ rfl), (b.cell (p := ⟨ub, uoff + n * 6 + 2, none⟩) hub).trans (hc 2 _ rfl), (b.cell (p := ⟨ub, uoff + n * 6 + 3, none⟩) hub).trans (hc 3 _ rfl), (b.cell (p := ⟨ub, uoff + n * 6 + 4, none⟩) hub).trans (hc 4 _ rfl), (b.cell (p := ⟨ub, uoff + n * 6 + 5, none⟩) hub).trans (hc 5 _ rfl), by rw [Lib.cell_of_heap g3]; rfl, by rw [Lib.cell_of_heap g3]; rfl, by rw [Lib.cell_of_heap g3]; rfl⟩
      have d0 : Below wr.heap.size wr wr.drew := ⟨rfl, rfl, rfl, Nat.le_refl _, fun _ _ => rfl⟩
      clear hc hRo hRl hRu hR IN huo hub RS
      obtain ⟨m0, m1, m2, m3, m4, m5, m6, m7, m8, m9, m10, m11, m12, m13, m14, m15, m16, m17, m18, m19⟩ := KT.out wr (Below.refl _ _)
      go_wp2_with fail
      go_region_held3 (fun W => W.cell? ⟨q2, 0, none⟩ = some (.slice F.a.1 F.a.2.2.length F.a.2.1) ∧ W.cell? ⟨q2, 1, none⟩ = some (.slice F.s.1 F.s.2.2.length F.s.2.1) ∧ W.cell? ⟨q2, 2, none⟩ = some (.slice F.r.1 F.r.2.2.length F.r.2.1) ∧ W.cell? ⟨q2, 3, none⟩ = some (.slice F.o.1 F.o.2.2.length F.o.2.1) ∧ W.cell? ⟨q2, 4, none⟩ = some (.slice F.g.1 F.g.2.2.length F.g.2.1) ∧ W.cell? ⟨q2, 5, none⟩ = some (.slice F.m.1 F.m.2.2.length F.m.2.1) ∧ W.cell? ⟨q2, 6, none⟩ = some (.slice F.i.1 F.i.2.2.length F.i.2.1) ∧ W.cell? ⟨q2, 7, none⟩ = some (.slice F.p.1 F.p.2.2.length F.p.2.1) ∧ W.cell? ⟨q2, 8, none⟩ = some (.slice F.w.1 F.w.2.2.length F.w.2.1) ∧ W.cell? ⟨q2, 9, none⟩ = some (.slice (some ⟨ub, uoff, none⟩) F.u.2.2.length F.u.2.1) ∧ W.cell? ⟨q2, 10, none⟩ = some (.slice F.x.1 F.x.2.2.length F.x.2.1) ∧ W.cell? ⟨ub, uoff + n * 6, none⟩ = some (.bool bv) ∧ W.cell? ⟨ub, uoff + n * 6 + 1, none⟩ = some (.string who) ∧ W.cell? ⟨ub, uoff + n * 6 + 2, none⟩ = some (.string what) ∧ W.cell? ⟨ub, uoff + n * 6 + 3, none⟩ = some (.slice ro rl.length rc) ∧ W.cell? ⟨ub, uoff + n * 6 + 4, none⟩ = some (.int .i8 cd) ∧ W.cell? ⟨ub, uoff + n * 6 + 5, none⟩ = some (.float .f64 lv) ∧ W.cell? ⟨q3, 0, none⟩ = some (.string ts) ∧ W.cell? ⟨q3, 1, none⟩ = some (.string to) ∧ W.cell? ⟨q3, 2, none⟩ = some (.string ta)) (first | with_reducible exact KT.out _ d0 | with_reducible exact KT.out _ d1 | go_keep) ((go_at_call 20; refine (C20.out _ d0).mono ?_; rintro e w1 ⟨rfl, t1⟩; have d1 : Below wr.heap.size wr w1 := d0.trans (t1.mono d0.size); clear t1))
      rename_i hHeld
      clear hHeld m0 m1 m2 m3 m4 m5 m6 m7 m8 m10 m12 m13 m14 m15 m16 m17 m18 m19 e2
      have r9 := (KT.out w1 d1).2.2.2.2.2.2.2.2.2.1
      have r0 := (KT.out w1 d1).2.2.2.2.2.2.2.2.2.2.2.1
      clear KT C20 m9 m11
      have U1 := hide' (UU.out.below d1)
      cases mv <;> cases bv
      all_goals simp only [Bool.false_and, Bool.true_and, Bool.or_false, Bool.or_true, beq_self_eq_true, Bool.false_beq, Bool.true_beq, Bool.not_true, Bool.not_false] at ta1 ta2
      all_goals go_wp2_with fail
      all_goals exact ⟨⟨n + 1, by go_num, by omega, by rw [ta1.out], by rw [ta2.out], U1⟩, by simp [intOf]; omega⟩
    · have hkl : n = F.u.2.2.length := by omega
      subst hkl
      have hlt' : ¬ (F.u.2.2.length : Int) < (F.u.2.2.length : Int) := by omega
      rw [List.take_length]
      have AL : Hid (alw F ts to ta = (rany F ts to ta false F.u.2.2 && !rany F ts to ta true F.u.2.2 && !exc F.x.2.2 (ts, to, ta))) := rfl
      have CX := hide' (excepted_any F ts to ta wr IN.out Hs.out)
      generalize rany F ts to ta false F.u.2.2 = va at *
      generalize rany F ts to ta true F.u.2.2 = vd at *
      generalize exc F.x.2.2 (ts, to, ta) = vx at *
      have m0 : wr.cell? ⟨q2, 0, none⟩ = some (.slice F.a.1 F.a.2.2.length F.a.2.1) := by rw [Lib.cell_of_heap UU.out.h2]; rfl
      have m1 : wr.cell? ⟨q2, 1, none⟩ = some (.slice F.s.1 F.s.2.2.length F.s.2.1) := by rw [Lib.cell_of_heap UU.out.h2]; rfl
      have m2 : wr.cell? ⟨q2, 2, none⟩ = some (.slice F.r.1 F.r.2.2.length F.r.2.1) := by rw [Lib.cell_of_heap UU.out.h2]; rfl
      have m3 : wr.cell? ⟨q2, 3, none⟩ = some (.slice F.o.1 F.o.2.2.length F.o.2.1) := by rw [Lib.cell_of_heap UU.out.h2]; rfl
      have m4 : wr.cell? ⟨q2, 4, none⟩ = some (.slice F.g.1 F.g.2.2.length F.g.2.1) := by rw [Lib.cell_of_heap UU.out.h2]; rfl
      have m5 : wr.cell? ⟨q2, 5, none⟩ = some (.slice F.m.1 F.m.2.2.length F.m.2.1) := by rw [Lib.cell_of_heap UU.out.h2]; rfl
      have m6 : wr.cell? ⟨q2, 6, none⟩ = some (.slice F.i.1 F.i.2.2.length F.i.2.1) := by rw [Lib.cell_of_heap UU.out.h2]; rfl
      have m7 : wr.cell? ⟨q2, 7, none⟩ = some (.slice F.p.1 F.p.2.2.length F.p.2.1) := by rw [Lib.cell_of_heap UU.out.h2]; rfl
      have m8 : wr.cell? ⟨q2, 8, none⟩ = some (.slice F.w.1 F.w.2.2.length F.w.2.1) := by rw [Lib.cell_of_heap UU.out.h2]; rfl
      have m9 : wr.cell? ⟨q2, 9, none⟩ = some (.slice F.u.1 F.u.2.2.length F.u.2.1) := by rw [Lib.cell_of_heap UU.out.h2]; rfl
      have m10 : wr.cell? ⟨q2, 10, none⟩ = some (.slice F.x.1 F.x.2.2.length F.x.2.1) := by rw [Lib.cell_of_heap UU.out.h2]; rfl
      have s0 : wr.cell? ⟨q3, 0, none⟩ = some (.string ts) := by rw [Lib.cell_of_heap UU.out.h3]; rfl
      have s1 : wr.cell? ⟨q3, 1, none⟩ = some (.string to) := by rw [Lib.cell_of_heap UU.out.h3]; rfl
      have s2 : wr.cell? ⟨q3, 2, none⟩ = some (.string ta) := by rw [Lib.cell_of_heap UU.out.h3]; rfl
      go_wp2_with fail
      refine CX.out.mono ?_
      rintro e w1 ⟨rfl, t1⟩
      have bf := hide' (UU.out.b.trans (t1.mono UU.out.b.size))
      clear t1 m0 m1 m2 m3 m4 m5 m6 m7 m8 m9 m10 s0 s1 s2 e2
      cases va <;> cases vd <;> cases vx
      all_goals go_wp2_with fail
      all_goals go_ret
      all_goals exact ⟨by rw [AL.out]; rfl, bf.out⟩
end U
end Go.Proofs.Ytdhmommfmmiieaa
set_option linter.unusedVariables false
set_option linter.unusedSimpArgs false
namespace Go.Proofs.Ytdhmommfmmiieaa
open Go.RowKit Go.Maps
namespace U
/-- 8.4, as the bits are set one by one -/
def mkn (F : Pf) (ts to : ByteArray) : Nat → Int
  | 0 => 0
  | n + 1 => match F.a.2.2[n]? with | some ac => if alw F ts to ac = true then bits .or .u16 (mkn F ts to n) (IntKind.u16.wrap (2 ^ n)) else mkn F ts to n | none => mkn F ts to n
theorem mkn_at {F : Pf} {ts to ac : ByteArray} {n : Nat} (h : F.a.2.2[n]? = some ac) : mkn F ts to (n + 1) = if alw F ts to ac = true then bits .or .u16 (mkn F ts to n) (IntKind.u16.wrap (2 ^ n)) else mkn F ts to n := by
  show (match F.a.2.2[n]? with | some ac => _ | none => _) = _
  rw [h]
set_option maxRecDepth 100000 in
set_option maxHeartbeats 4000000 in
theorem rmask_any (F : Pf) (ts to : ByteArray) (w : World) (h : F.In w) (hs : F.Small) (hps : F.po.Small) (hu : ∀ R ∈ F.u.2.2, R.who.size ≤ 1048576 ∧ R.what.size ≤ 1048576) (hz : ts.size ≤ 1048576 ∧ to.size ≤ 1048576) : Calls Try.prog 25 #[.agg #[.slice F.a.1 F.a.2.2.length F.a.2.1, .slice F.s.1 F.s.2.2.length F.s.2.1, .slice F.r.1 F.r.2.2.length F.r.2.1, .slice F.o.1 F.o.2.2.length F.o.2.1, .slice F.g.1 F.g.2.2.length F.g.2.1, .slice F.m.1 F.m.2.2.length F.m.2.1, .slice F.i.1 F.i.2.2.length F.i.2.1, .slice F.p.1 F.p.2.2.length F.p.2.1, .slice F.w.1 F.w.2.2.length F.w.2.1, .slice F.u.1 F.u.2.2.length F.u.2.1, .slice F.x.1 F.x.2.2.length F.x.2.1], .string ts, .string to] w fun e w' => e = .returned (.int .u16 (mkn F ts to (min F.a.2.2.length 16))) ∧ Below w.heap.size w w' := by
  have H := hide' h
  have Hs := hide' hs
  have Hp := hide' hps
  have Hu := hide' hu
  have Hz := hide' hz
  have hal : (F.a.2.2.length : Int) ≤ 1048576 := by have := hs.a; omega
  clear h hs hps hu hz
  go_enter Try.func25, Try.ntmps25
  go_wp2_with fail
  have hb : Hid (Below w.heap.size w (w.alloc (.cells #[.slice F.a.1 F.a.2.2.length F.a.2.1, .slice F.s.1 F.s.2.2.length F.s.2.1, .slice F.r.1 F.r.2.2.length F.r.2.1, .slice F.o.1 F.o.2.2.length F.o.2.1, .slice F.g.1 F.g.2.2.length F.g.2.1, .slice F.m.1 F.m.2.2.length F.m.2.1, .slice F.i.1 F.i.2.2.length F.i.2.1, .slice F.p.1 F.p.2.2.length F.p.2.1, .slice F.w.1 F.w.2.2.length F.w.2.1, .slice F.u.1 F.u.2.2.length F.u.2.1, .slice F.x.1 F.x.2.2.length F.x.2.1] 34)) ∧ (w.alloc (.cells #[.slice F.a.1 F.a.2.2.length F.a.2.1, .slice F.s.1 F.s.2.2.length F.s.2.1, .slice F.r.1 F.r.2.2.length F.r.2.1, .slice F.o.1 F.o.2.2.length F.o.2.1, .slice F.g.1 F.g.2.2.length F.g.2.1, .slice F.m.1 F.m.2.2.length F.m.2.1, .slice F.i.1 F.i.2.2.length F.i.2.1, .slice F.p.1 F.p.2.2.length F.p.2.1, .slice F.w.1 F.w.2.2.length F.w.2.1, .slice F.u.1 F.u.2.2.length F.u.2.1, .slice F.x.1 F.x.2.2.length F.x.2.1] 34)).heap[w.heap.size]? = some (.cells #[.slice F.a.1 F.a.2.2.length F.a.2.1, .slice F.s.1 F.s.2.2.length F.s.2.1, .slice F.r.1 F.r.2.2.length F.r.2.1, .slice F.o.1 F.o.2.2.length F.o.2.1, .slice F.g.1 F.g.2.2.length F.g.2.1, .slice F.m.1 F.m.2.2.length F.m.2.1, .slice F.i.1 F.i.2.2.length F.i.2.1, .slice F.p.1 F.p.2.2.length F.p.2.1, .slice F.w.1 F.w.2.2.length F.w.2.1, .slice F.u.1 F.u.2.2.length F.u.2.1, .slice F.x.1 F.x.2.2.length F.x.2.1] 34 (0, 0))) := ⟨(Below.refl _ _).alloc (Nat.le_refl _) _, heap_alloc_new w _⟩
  obtain ⟨q3, hq3⟩ : ∃ q3, q3 = w.heap.size := ⟨_, rfl⟩
  rw [← hq3]
  have hb' : Hid (Below w.heap.size w (w.alloc (.cells #[.slice F.a.1 F.a.2.2.length F.a.2.1, .slice F.s.1 F.s.2.2.length F.s.2.1, .slice F.r.1 F.r.2.2.length F.r.2.1, .slice F.o.1 F.o.2.2.length F.o.2.1, .slice F.g.1 F.g.2.2.length F.g.2.1, .slice F.m.1 F.m.2.2.length F.m.2.1, .slice F.i.1 F.i.2.2.length F.i.2.1, .slice F.p.1 F.p.2.2.length F.p.2.1, .slice F.w.1 F.w.2.2.length F.w.2.1, .slice F.u.1 F.u.2.2.length F.u.2.1, .slice F.x.1 F.x.2.2.length F.x.2.1] 34)) ∧ (w.alloc (.cells #[.slice F.a.1 F.a.2.2.length F.a.2.1, .slice F.s.1 F.s.2.2.length F.s.2.1, .slice F.r.1 F.r.2.2.length F.r.2.1, .slice F.o.1 F.o.2.2.length F.o.2.1, .slice F.g.1 F.g.2.2.length F.g.2.1, .slice F.m.1 F.m.2.2.length F.m.2.1, .slice F.i.1 F.i.2.2.length F.i.2.1, .slice F.p.1 F.p.2.2.length F.p.2.1, .slice F.w.1 F.w.2.2.length F.w.2.1, .slice F.u.1 F.u.2.2.length F.u.2.1, .slice F.x.1 F.x.2.2.length F.x.2.1] 34)).heap[q3]? = some (.cells #[.slice F.a.1 F.a.2.2.length F.a.2.1, .slice F.s.1 F.s.2.2.length F.s.2.1, .slice F.r.1 F.r.2.2.length F.r.2.1, .slice F.o.1 F.o.2.2.length F.o.2.1, .slice F.g.1 F.g.2.2.length F.g.2.1, .slice F.m.1 F.m.2.2.length F.m.2.1, .slice F.i.1 F.i.2.2.length F.i.2.1, .slice F.p.1 F.p.2.2.length F.p.2.1, .slice F.w.1 F.w.2.2.length F.w.2.1, .slice F.u.1 F.u.2.2.length F.u.2.1, .slice F.x.1 F.x.2.2.length F.x.2.1] 34 (0, 0))) := by rw [hq3]; exact hb
  clear hb hq3
  go_loopw [7, 8] (fun mv iv wx => ∃ n : Nat, iv = .int .i64 (n : Int) ∧ n ≤ F.a.2.2.length ∧ n ≤ 16 ∧ mv = .int .u16 (mkn F ts to n) ∧ Hid (Below w.heap.size w wx ∧ wx.heap[q3]? = some (.cells #[.slice F.a.1 F.a.2.2.length F.a.2.1, .slice F.s.1 F.s.2.2.length F.s.2.1, .slice F.r.1 F.r.2.2.length F.r.2.1, .slice F.o.1 F.o.2.2.length F.o.2.1, .slice F.g.1 F.g.2.2.length F.g.2.1, .slice F.m.1 F.m.2.2.length F.m.2.1, .slice F.i.1 F.i.2.2.length F.i.2.1, .slice F.p.1 F.p.2.2.length F.p.2.1, .slice F.w.1 F.w.2.2.length F.w.2.1, .slice F.u.1 F.u.2.2.length F.u.2.1, .slice F.x.1 F.x.2.2.length F.x.2.1] 34 (0, 0)))) (fun _ iv _ => F.a.2.2.length - (intOf iv).toNat)
  case atStart => exact ⟨0, rfl, Nat.zero_le _, by decide, rfl, hb'⟩
  case round =>
    obtain ⟨n, rfl, hn, hn16, rfl, UU⟩ := hrel
    clear hb'
    have IN := hide' (H.out.below UU.out.1)
    have ca := IN.out.a.2.1
    have e0 : wr.cell? ⟨q3, 0, none⟩ = some (.slice F.a.1 F.a.2.2.length F.a.2.1) := by rw [Lib.cell_of_heap UU.out.2]; rfl
    by_cases hlt : n < F.a.2.2.length
    · have hlt' : (n : Int) < (F.a.2.2.length : Int) := by omega
      by_cases h16 : n < 16
      · have h16' : (n : Int) < 16 := by omega
        obtain ⟨ac, hac⟩ : ∃ ac, F.a.2.2[n]? = some ac := ⟨_, List.getElem?_eq_getElem hlt⟩
        obtain ⟨ab, aoff, hao, hab, hc⟩ := IN.out.a.1.at hac
        have C23 : Hid (∀ V, Below wr.heap.size wr V → Calls Try.prog 23 #[.agg #[.slice F.a.1 F.a.2.2.length F.a.2.1, .slice F.s.1 F.s.2.2.length F.s.2.1, .slice F.r.1 F.r.2.2.length F.r.2.1, .slice F.o.1 F.o.2.2.length F.o.2.1, .slice F.g.1 F.g.2.2.length F.g.2.1, .slice F.m.1 F.m.2.2.length F.m.2.1, .slice F.i.1 F.i.2.2.length F.i.2.1, .slice F.p.1 F.p.2.2.length F.p.2.1, .slice F.w.1 F.w.2.2.length F.w.2.1, .slice F.u.1 F.u.2.2.length F.u.2.1, .slice F.x.1 F.x.2.2.length F.x.2.1], .agg #[.string ts, .string to, .string ac]] V fun e w' => e = .returned (.bool (alw F ts to ac)) ∧ Below V.heap.size V w') := fun V b => rallows_any F ts to ac V (IN.out.below b) Hs.out Hp.out Hu.out Hz.out
        have MK := hide' (mkn_at (ts := ts) (to := to) hac)
        generalize alw F ts to ac = av at *
        generalize mkn F ts to n = m at *
        have KT : Hid (∀ V, Below wr.heap.size wr V → V.cell? ⟨q3, 0, none⟩ = some (.slice (some ⟨ab, aoff, none⟩) F.a.2.2.length F.a.2.1) ∧ V.cell? ⟨q3, 1, none⟩ = some (.slice F.s.1 F.s.2.2.length F.s.2.1) ∧ V.cell? ⟨q3, 2, none⟩ = some (.slice F.r.1 F.r.2.2.length F.r.2.1) ∧ V.cell? ⟨q3, 3, none⟩ = some (.slice F.o.1 F.o.2.2.length F.o.2.1) ∧ V.cell? ⟨q3, 4, none⟩ = some (.slice F.g.1 F.g.2.2.length F.g.2.1) ∧ V.cell? ⟨q3, 5, none⟩ = some (.slice F.m.1 F.m.2.2.length F.m.2.1) ∧ V.cell? ⟨q3, 6, none⟩ = some (.slice F.i.1 F.i.2.2.length F.i.2.1) ∧ V.cell? ⟨q3, 7, none⟩ = some (.slice F.p.1 F.p.2.2.length F.p.2.1) ∧ V.cell? ⟨q3, 8, none⟩ = some (.slice F.w.1 F.w.2.2.length F.w.2.1) ∧ V.cell? ⟨q3, 9, none⟩ = some (.slice F.u.1 F.u.2.2.length F.u.2.1) ∧ V.cell? ⟨q3, 10, none⟩ = some (.slice F.x.1 F.x.2.2.length F.x.2.1) ∧ V.cell? ⟨ab, aoff + n, none⟩ = some (.string ac)) := fun V b => by
          have g3 := (b.block _ (lt_of_heap UU.out.2)).trans UU.out.2
          rw [hao] at g3
          exact ⟨by rw [Lib.cell_of_heap g3]; rfl, by rw [Lib.cell_of_heap g3]; rfl, by rw [Lib.cell_of_heap g3]; rfl, by rw [Lib.cell_of_heap g3]; rfl, by rw [Lib.cell_of_heap g3]; rfl, by rw [Lib.cell_of_heap g3]; rfl, by rw [Lib.cell_of_heap g3]; rfl, by rw [Lib.cell_of_heap g3]; rfl, by rw [Lib.cell_of_heap g3]; rfl, by rw [Lib.cell_of_heap g3]; rfl, by rw [Lib.cell_of_heap g3]; rfl, (b.cell (p := ⟨ab, aoff + n, none⟩) hab).trans hc⟩
        rw [hao] at C23 e0
        have d0 : Below wr.heap.size wr wr.drew := ⟨rfl, rfl, rfl, Nat.le_refl _, fun _ _ => rfl⟩
        clear hac hc hao hab IN
        obtain ⟨m0, m1, m2, m3, m4, m5, m6, m7, m8, m9, m10, m11⟩ := KT.out wr (Below.refl _ _)
        go_wp2_with fail
        go_region_held3 (fun W => W.cell? ⟨q3, 0, none⟩ = some (.slice (some ⟨ab, aoff, none⟩) F.a.2.2.length F.a.2.1) ∧ W.cell? ⟨q3, 1, none⟩ = some (.slice F.s.1 F.s.2.2.length F.s.2.1) ∧ W.cell? ⟨q3, 2, none⟩ = some (.slice F.r.1 F.r.2.2.length F.r.2.1) ∧ W.cell? ⟨q3, 3, none⟩ = some (.slice F.o.1 F.o.2.2.length F.o.2.1) ∧ W.cell? ⟨q3, 4, none⟩ = some (.slice F.g.1 F.g.2.2.length F.g.2.1) ∧ W.cell? ⟨q3, 5, none⟩ = some (.slice F.m.1 F.m.2.2.length F.m.2.1) ∧ W.cell? ⟨q3, 6, none⟩ = some (.slice F.i.1 F.i.2.2.length F.i.2.1) ∧ W.cell? ⟨q3, 7, none⟩ = some (.slice F.p.1 F.p.2.2.length F.p.2.1) ∧ W.cell? ⟨q3, 8, none⟩ = some (.slice F.w.1 F.w.2.2.length F.w.2.1) ∧ W.cell? ⟨q3, 9, none⟩ = some (.slice F.u.1 F.u.2.2.length F.u.2.1) ∧ W.cell? ⟨q3, 10, none⟩ = some (.slice F.x.1 F.x.2.2.length F.x.2.1) ∧ W.cell? ⟨ab, aoff + n, none⟩ = some (.string ac)) (first | with_reducible exact KT.out _ d0 | with_reducible exact KT.out _ d1 | go_keep) ((go_at_call 23; refine (C23.out _ d0).mono ?_; rintro e w1 ⟨rfl, t1⟩; have d1 : Below wr.heap.size wr w1 := d0.trans (t1.mono d0.size); clear t1))
        rename_i hHeld
        clear hHeld m0 m1 m2 m3 m4 m5 m6 m7 m8 m9 m10 m11 e0 KT C23
        have U1 : Hid (Below w.heap.size w w1 ∧ w1.heap[q3]? = some (.cells #[.slice F.a.1 F.a.2.2.length F.a.2.1, .slice F.s.1 F.s.2.2.length F.s.2.1, .slice F.r.1 F.r.2.2.length F.r.2.1, .slice F.o.1 F.o.2.2.length F.o.2.1, .slice F.g.1 F.g.2.2.length F.g.2.1, .slice F.m.1 F.m.2.2.length F.m.2.1, .slice F.i.1 F.i.2.2.length F.i.2.1, .slice F.p.1 F.p.2.2.length F.p.2.1, .slice F.w.1 F.w.2.2.length F.w.2.1, .slice F.u.1 F.u.2.2.length F.u.2.1, .slice F.x.1 F.x.2.2.length F.x.2.1] 34 (0, 0))) := ⟨UU.out.1.trans (d1.mono UU.out.1.size), (d1.block _ (lt_of_heap UU.out.2)).trans UU.out.2⟩
        cases av
        · go_wp2_with fail
          exact ⟨⟨n + 1, by go_num, by omega, by omega, by rw [MK.out]; rfl, U1⟩, by simp [intOf]; omega⟩
        · go_wp2_with fail
          exact ⟨⟨n + 1, by go_num, by omega, by omega, by rw [MK.out]; rfl, U1⟩, by simp [intOf]; omega⟩
      · have hk : n = 16 := by omega
        subst hk
        have h16' : ¬ ((16 : Nat) : Int) < 16 := by omega
        have hmin : Hid (min F.a.2.2.length 16 = 16) := by show _ = _; omega
        have UB := hide' UU.out.1
        go_wp2_with fail
        go_ret
        exact ⟨by first | rfl | (rw [hmin.out]; rfl), UB.out⟩
    · have hk : n = F.a.2.2.length := by omega
      subst hk
      have hlt' : ¬ (F.a.2.2.length : Int) < (F.a.2.2.length : Int) := by omega
      have hmin : Hid (min F.a.2.2.length 16 = F.a.2.2.length) := by show _ = _; omega
      have UB := hide' UU.out.1
      go_wp2_with fail
      go_ret
      exact ⟨by first | rfl | (rw [hmin.out]; rfl), UB.out⟩
end U
end Go.Proofs.Ytdhmommfmmiieaa
