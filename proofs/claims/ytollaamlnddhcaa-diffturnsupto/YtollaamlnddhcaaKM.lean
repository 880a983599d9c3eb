import Derived.Test.YtollaamlnddhcaaRms
import Derived.Deep.WholeRow
import Derived.Deep.MidRow
import Derived.Deep.RegionHeld3
set_option linter.unusedVariables false
set_option linter.unusedSimpArgs false
namespace Go.Proofs.Ytollaamlnddhcaa
open Go.RowKit Go.Maps
namespace U
theorem ex_row {P : Program} {o : Oper} {a : Act} {w : World} (ty : TypeId) (x : Operand) (ho : o.op = .load ty x) (g : Nat) (hx : a.eval x = .pointer (some ⟨g, 0, none⟩)) (t : TypeId) (cs : Array Value) (fr : Nat × Nat) (d : TypeDesc) (hg : w.heap[g]? = some (.cells cs t fr))
    (hu : P.underlying ty = some d) (hd : (match d with | .struct _ | .array _ _ => true | _ => false) = true) (hi : (P.info? ty).map (·.size) = some cs.size) : (execOp a.eval o).run P w = .ok (.value (.agg cs)) w := by
  unfold execOp
  simp only [ho, hx, Instr.loadAt, Instr.sureAddr, Sem.run_bind, Sem.run_pure, Result.andThen_ok, run_loadVar_row w g t ty cs fr d hg hu hd hi]
theorem ex_mid {P : Program} {o : Oper} {a : Act} {w : World} (ty : TypeId) (x : Operand) (ho : o.op = .load ty x) (g : Nat) (hx : a.eval x = .pointer (some ⟨g, 0, none⟩)) (t : TypeId) (cs ds : List Value) (fr : Nat × Nat) (d : TypeDesc) (hg : w.heap[g]? = some (.cells (cs ++ ds).toArray t fr))
    (hu : P.underlying ty = some d) (hd : d.isRow = true) (hi : (P.info? ty).map (·.size) = some cs.length) : (execOp a.eval o).run P w = .ok (.value (.agg cs.toArray)) w := by
  have hc : w.rangeAt g 0 cs := fun j v q => by
    rw [Nat.zero_add, Lib.cell_of_heap hg, List.getElem?_toArray, List.getElem?_append_left (List.getElem?_eq_some_iff.1 q).1]
    exact q
  unfold execOp
  simp only [ho, hx, Instr.loadAt, Instr.sureAddr, Sem.run_bind, Sem.run_pure, Result.andThen_ok, run_loadVar_mid w g 0 ty cs d hc hu hd hi]
end U
end Go.Proofs.Ytollaamlnddhcaa
set_option linter.unusedVariables false
set_option linter.unusedSimpArgs false
namespace Go.Proofs.Ytollaamlnddhcaa
open Go.RowKit Go.Maps
namespace U
/-- does a triple stand among the excepts? -/
def exq (t z : X.K3) : Bool := decide (z.1 = t.1) && decide (z.2.1 = t.2.1) && decide (z.2.2 = t.2.2)
def exc (xs : List X.K3) (t : X.K3) : Bool := xs.any (exq t)
theorem exc_take {xs : List X.K3} {t : X.K3} {k : Nat} {z : X.K3} (h : exc (xs.take k) t = false) (hz : xs[k]? = some z) (hn : exq t z = false) : exc (xs.take (k + 1)) t = false := by
  unfold exc at *
  rw [List.take_add_one, hz, List.any_append, h]
  simp [hn]
theorem exc_hit {xs : List X.K3} {t : X.K3} {k : Nat} (hz : xs[k]? = some t) : exc xs t = true := by
  unfold exc
  rw [List.any_eq_true]
  exact ⟨t, List.mem_of_getElem? hz, by simp [exq]⟩
/-- a policy and a triple in boxes -/
structure Bx (F : Pf) (ts to ta : ByteArray) (q2 q3 : Nat) (w V : World) : Prop where
  b : Below w.heap.size w V
  h2 : V.heap[q2]? = some (.cells #[.slice F.a.1 F.a.2.2.length F.a.2.1, .slice F.s.1 F.s.2.2.length F.s.2.1, .slice F.r.1 F.r.2.2.length F.r.2.1, .slice F.o.1 F.o.2.2.length F.o.2.1, .slice F.g.1 F.g.2.2.length F.g.2.1, .slice F.m.1 F.m.2.2.length F.m.2.1, .slice F.i.1 F.i.2.2.length F.i.2.1, .slice F.p.1 F.p.2.2.length F.p.2.1, .slice F.w.1 F.w.2.2.length F.w.2.1, .slice F.u.1 F.u.2.2.length F.u.2.1, .slice F.x.1 F.x.2.2.length F.x.2.1] 28 (0, 0))
  h3 : V.heap[q3]? = some (.cells #[.string ts, .string to, .string ta] 42 (0, 0))
theorem Bx.below {F : Pf} {ts to ta : ByteArray} {q2 q3 : Nat} {w V V' : World} (h : Bx F ts to ta q2 q3 w V) (t : Below V.heap.size V V') : Bx F ts to ta q2 q3 w V' :=
  ⟨h.b.trans (t.mono h.b.size), (t.block _ (lt_of_heap h.h2)).trans h.h2, (t.block _ (lt_of_heap h.h3)).trans h.h3⟩
theorem Bx.drewN {F : Pf} {ts to ta : ByteArray} {q2 q3 : Nat} {w V : World} (h : Bx F ts to ta q2 q3 w V) (n : Nat) : Bx F ts to ta q2 q3 w (V.drewN n) := h.below ⟨rfl, rfl, rfl, Nat.le_refl _, fun _ _ => rfl⟩
theorem Bx.mk2 (F : Pf) (ts to ta : ByteArray) (w : World) : Bx F ts to ta w.heap.size (w.heap.size + 1) w ((w.alloc (.cells #[.slice F.a.1 F.a.2.2.length F.a.2.1, .slice F.s.1 F.s.2.2.length F.s.2.1, .slice F.r.1 F.r.2.2.length F.r.2.1, .slice F.o.1 F.o.2.2.length F.o.2.1, .slice F.g.1 F.g.2.2.length F.g.2.1, .slice F.m.1 F.m.2.2.length F.m.2.1, .slice F.i.1 F.i.2.2.length F.i.2.1, .slice F.p.1 F.p.2.2.length F.p.2.1, .slice F.w.1 F.w.2.2.length F.w.2.1, .slice F.u.1 F.u.2.2.length F.u.2.1, .slice F.x.1 F.x.2.2.length F.x.2.1] 28)).alloc (.cells #[.string ts, .string to, .string ta] 42)) := by
  have a1 := heap_alloc_new w (.cells #[.slice F.a.1 F.a.2.2.length F.a.2.1, .slice F.s.1 F.s.2.2.length F.s.2.1, .slice F.r.1 F.r.2.2.length F.r.2.1, .slice F.o.1 F.o.2.2.length F.o.2.1, .slice F.g.1 F.g.2.2.length F.g.2.1, .slice F.m.1 F.m.2.2.length F.m.2.1, .slice F.i.1 F.i.2.2.length F.i.2.1, .slice F.p.1 F.p.2.2.length F.p.2.1, .slice F.w.1 F.w.2.2.length F.w.2.1, .slice F.u.1 F.u.2.2.length F.u.2.1, .slice F.x.1 F.x.2.2.length F.x.2.1] 28)
  have a2 := heap_alloc_new (w.alloc (.cells #[.slice F.a.1 F.a.2.2.length F.a.2.1, .slice F.s.1 F.s.2.2.length F.s.2.1, .slice F.r.1 F.r.2.2.length F.r.2.1, .slice F.o.1 F.o.2.2.length F.o.2.1, .slice F.g.1 F.g.2.2.length F.g.2.1, .slice F.m.1 F.m.2.2.length F.m.2.1, .slice F.i.1 F.i.2.2.length F.i.2.1, .slice F.p.1 F.p.2.2.length F.p.2.1, .slice F.w.1 F.w.2.2.length F.w.2.1, .slice F.u.1 F.u.2.2.length F.u.2.1, .slice F.x.1 F.x.2.2.length F.x.2.1] 28)) (.cells #[.string ts, .string to, .string ta] 42)
  have z1 : (w.alloc (.cells #[.slice F.a.1 F.a.2.2.length F.a.2.1, .slice F.s.1 F.s.2.2.length F.s.2.1, .slice F.r.1 F.r.2.2.length F.r.2.1, .slice F.o.1 F.o.2.2.length F.o.2.1, .slice F.g.1 F.g.2.2.length F.g.2.1, .slice F.m.1 F.m.2.2.length F.m.2.1, .slice F.i.1 F.i.2.2.length F.i.2.1, .slice F.p.1 F.p.2.2.length F.p.2.1, .slice F.w.1 F.w.2.2.length F.w.2.1, .slice F.u.1 F.u.2.2.length F.u.2.1, .slice F.x.1 F.x.2.2.length F.x.2.1] 28)).heap.size = w.heap.size + 1 := by simp
  rw [z1] at a2
  exact ⟨((Below.refl _ _).alloc (Nat.le_refl _) _).alloc (by simp) _, (Below.heap_alloc _ _ _ (by omega)).trans a1, a2⟩
set_option maxRecDepth 100000 in
set_option maxHeartbeats 4000000 in
theorem excepted_any (F : Pf) (ts to ta : ByteArray) (w : World) (h : F.In w) (hs : F.Small) : Calls Try.prog 77 #[.agg #[.slice F.a.1 F.a.2.2.length F.a.2.1, .slice F.s.1 F.s.2.2.length F.s.2.1, .slice F.r.1 F.r.2.2.length F.r.2.1, .slice F.o.1 F.o.2.2.length F.o.2.1, .slice F.g.1 F.g.2.2.length F.g.2.1, .slice F.m.1 F.m.2.2.length F.m.2.1, .slice F.i.1 F.i.2.2.length F.i.2.1, .slice F.p.1 F.p.2.2.length F.p.2.1, .slice F.w.1 F.w.2.2.length F.w.2.1, .slice F.u.1 F.u.2.2.length F.u.2.1, .slice F.x.1 F.x.2.2.length F.x.2.1], .agg #[.string ts, .string to, .string ta]] w fun e w' => e = .returned (.bool (exc F.x.2.2 (ts, to, ta))) ∧ Below w.heap.size w w' := by
  have H := hide' h
  have hxl : (F.x.2.2.length : Int) ≤ 1048576 := by have := hs.x; omega
  clear h hs
  go_enter Try.func77, Try.ntmps77
  go_wp2_with fail
  have B0 := hide' (Bx.mk2 F ts to ta w)
  obtain ⟨q2, hq2⟩ : ∃ q2, q2 = w.heap.size := ⟨_, rfl⟩
  generalize hq3 : w.heap.size + 1 = q3 at *
  rw [← hq2]
  rw [← hq2] at B0
  clear hq2 hq3
  go_loopw [5] (fun iv wx => ∃ k : Nat, iv = .int .i64 (k : Int) ∧ k ≤ F.x.2.2.length ∧ Hid (exc (F.x.2.2.take k) (ts, to, ta) = false) ∧ Hid (Bx F ts to ta q2 q3 w wx)) (fun iv _ => F.x.2.2.length - (intOf iv).toNat)
  case atStart => exact ⟨0, rfl, Nat.zero_le _, by show _ = _; simp [exc], B0⟩
  case round =>
    obtain ⟨k, rfl, hk, HN, UU⟩ := hrel
    clear B0
    have IN := hide' (H.out.below UU.out.b)
    have cx := IN.out.x.2.1
    have e2 : wr.cell? ⟨q2, 10, none⟩ = some (.slice F.x.1 F.x.2.2.length F.x.2.1) := by rw [Lib.cell_of_heap UU.out.h2]; rfl
    have t0 : wr.cell? ⟨q3, 0, none⟩ = some (.string ts) := by rw [Lib.cell_of_heap UU.out.h3]; rfl
    have t1 : wr.cell? ⟨q3, 1, none⟩ = some (.string to) := by rw [Lib.cell_of_heap UU.out.h3]; rfl
    have t2 : wr.cell? ⟨q3, 2, none⟩ = some (.string ta) := by rw [Lib.cell_of_heap UU.out.h3]; rfl
    by_cases hlt : k < F.x.2.2.length
    · have hlt' : (k : Int) < (F.x.2.2.length : Int) := by omega
      have hk64 : (k : Int) < 1048577 := by omega
      obtain ⟨z, hz⟩ : ∃ z, F.x.2.2[k]? = some z := ⟨_, List.getElem?_eq_getElem hlt⟩
      obtain ⟨y, off, hy, _, d1, d2, d3⟩ := IN.out.x.1.at hz
      rw [hy] at e2
      have HZ := hide' hz
      obtain ⟨z1, z2, z3⟩ := z
      simp only at d1 d2 d3
      clear hy IN hz
      by_cases h1 : z1 = ts
      · by_cases h2 : z2 = to
        · by_cases h3 : z3 = ta
          · subst h1 h2 h3
            have g1 := text_eq z1
            have g2 := text_eq z2
            have g3 := text_eq z3
            go_wp2_with fail
            go_quiet (fail)
            go_wp2_with fail
            go_ret
            exact ⟨by rw [exc_hit HZ.out]; rfl, UU.out.b.trans ⟨rfl, rfl, rfl, Nat.le_refl _, fun _ _ => rfl⟩⟩
          · subst h1 h2
            have g1 := text_eq z1
            have g2 := text_eq z2
            have g3 := text_ne h3
            have HN2 := hide' (exc_take HN.out HZ.out (by simp [exq, h3]))
            go_wp2_with fail
            go_quiet (fail)
            go_wp2_with fail
            exact ⟨⟨k + 1, by go_num, by omega, HN2, UU.out.drewN nq⟩, by simp [intOf]; omega⟩
        · subst h1
          have g1 := text_eq z1
          have g2 := text_ne h2
          have HN2 := hide' (exc_take HN.out HZ.out (by simp [exq, h2]))
          go_wp2_with fail
          go_quiet (fail)
          go_wp2_with fail
          exact ⟨⟨k + 1, by go_num, by omega, HN2, UU.out.drewN nq⟩, by simp [intOf]; omega⟩
      · have g1 := text_ne h1
        have HN2 := hide' (exc_take HN.out HZ.out (by simp [exq, h1]))
        go_wp2_with fail
        go_quiet (fail)
        go_wp2_with fail
        exact ⟨⟨k + 1, by go_num, by omega, HN2, UU.out.drewN nq⟩, by simp [intOf]; omega⟩
    · have hkl : k = F.x.2.2.length := by omega
      subst hkl
      have hlt' : ¬ (F.x.2.2.length : Int) < (F.x.2.2.length : Int) := by omega
      go_wp2_with fail
      go_ret
      exact ⟨by have q := HN.out; rw [List.take_length] at q; rw [q]; rfl, UU.out.b⟩
end U
end Go.Proofs.Ytollaamlnddhcaa
set_option linter.unusedVariables false
set_option linter.unusedSimpArgs false
namespace Go.Proofs.Ytollaamlnddhcaa
open Go.RowKit Go.Maps
namespace U
def den (R : Ru) : Bool := match R.d with | .bool b => b | _ => false
/-- a rule that matches, and allows (or denies) -/
def rsay (F : Pf) (ts to ta : ByteArray) (dn : Bool) (R : Ru) : Bool := mtc F.po R ts to ta && (den R == dn)
def rany (F : Pf) (ts to ta : ByteArray) (dn : Bool) (us : List Ru) : Bool := us.any (rsay F ts to ta dn)
/-- 8.3 -/
def alw (F : Pf) (ts to ta : ByteArray) : Bool := rany F ts to ta false F.u.2.2 && !rany F ts to ta true F.u.2.2 && !exc F.x.2.2 (ts, to, ta)
theorem rany_take {F : Pf} {ts to ta : ByteArray} {dn : Bool} {us : List Ru} {k : Nat} {R : Ru} (h : us[k]? = some R) : rany F ts to ta dn (us.take (k + 1)) = (rany F ts to ta dn (us.take k) || rsay F ts to ta dn R) := by
  unfold rany
  rw [List.take_add_one, h, List.any_append]
  simp
end U
end Go.Proofs.Ytollaamlnddhcaa
