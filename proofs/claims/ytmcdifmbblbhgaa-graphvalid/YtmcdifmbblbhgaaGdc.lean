import Derived.Test.YtmcdifmbblbhgaaGde
import Derived.Deep.QuietTactic
set_option linter.unusedVariables false
set_option linter.unusedSimpArgs false
namespace Go.Proofs.Ytmcdifmbblbhgaa
open Go.RowKit
namespace D
abbrev X3 (α : Type) := Option Addr × Nat × List α
/-- a graph as it lies -/
structure Gf where
  a : X3 ByteArray
  s : X3 ByteArray
  o : X3 ByteArray
  f : X3 Int
  n : X3 Int
  m : X3 Mr
def sl {α : Type} (x : X3 α) : Value := .slice x.1 x.2.2.length x.2.1
def Ok {α : Type} (cl : α → Value) (x : X3 α) (w : World) : Prop := Lies 1 x.1 (x.2.2.map fun z => [cl z]) w ∧ x.2.2.length ≤ x.2.1 ∧ (x.2.2.length : Int) ≤ 9223372036854775807
theorem Ok.below {α : Type} {cl : α → Value} {x : X3 α} {w w' : World} (h : Ok cl x w) (t : Below w.heap.size w w') : Ok cl x w' := ⟨h.1.below t, h.2⟩
structure Gf.In (G : Gf) (w : World) : Prop where
  a : Ok Value.string G.a w
  s : Ok Value.string G.s w
  o : Ok Value.string G.o w
  f : Ok (Value.int .i64) G.f w
  n : Ok (Value.int .i64) G.n w
  m : Ok Mr.cell G.m w
  r : ∀ r ∈ G.m.2.2, Ok (fun z : Nat => Value.int .u16 (z : Int)) (r.ro, r.rc, r.l) w ∧ ∀ z ∈ r.l, z < 65536
  fi : ∀ z ∈ G.f.2.2, -9223372036854775808 ≤ z ∧ z ≤ 9223372036854775807
  ni : ∀ z ∈ G.n.2.2, -9223372036854775808 ≤ z ∧ z ≤ 9223372036854775807
theorem Gf.In.below {G : Gf} {w w' : World} (h : G.In w) (t : Below w.heap.size w w') : G.In w' := ⟨h.a.below t, h.s.below t, h.o.below t, h.f.below t, h.n.below t, h.m.below t, fun r hr => ⟨(h.r r hr).1.below t, (h.r r hr).2⟩, h.fi, h.ni⟩
def prd (x : Int) : Int := if x = -9223372036854775808 then 9223372036854775807 else x - 1
def Gf.x (G : Gf) (t : ByteArray) : Int := atI G.f.2.2 (fdx G.s.2.2 t)
def Gf.y (G : Gf) (t : ByteArray) : Int := atI G.n.2.2 (fdx G.o.2.2 t)
def Gf.k (G : Gf) (ts to : ByteArray) : Nat := atN (atR G.m.2.2 (prd (G.x ts))).l (prd (G.y to))
/-- 11.3 -/
def Gf.dec (G : Gf) (ts to ta : ByteArray) : Bool := !((G.k ts to &&& mk1 (fdx G.a.2.2 ta)) == 0)
theorem lt_of_heap {w : World} {g : Nat} {o : Obj} (hg : w.heap[g]? = some o) : g < w.heap.size := (Array.getElem?_eq_some_iff.1 hg).1
/-- a graph and a triple in boxes -/
structure Bx (G : Gf) (ts to ta : ByteArray) (q2 q3 : Nat) (w V : World) : Prop where
  b : Below w.heap.size w V
  h2 : V.heap[q2]? = some (.cells #[.slice G.a.1 G.a.2.2.length G.a.2.1, .slice G.s.1 G.s.2.2.length G.s.2.1, .slice G.o.1 G.o.2.2.length G.o.2.1, .slice G.f.1 G.f.2.2.length G.f.2.1, .slice G.n.1 G.n.2.2.length G.n.2.1, .slice G.m.1 G.m.2.2.length G.m.2.1] 28 (0, 0))
  h3 : V.heap[q3]? = some (.cells #[.string ts, .string to, .string ta] 32 (0, 0))
theorem Bx.below {G : Gf} {ts to ta : ByteArray} {q2 q3 : Nat} {w V V' : World} (h : Bx G ts to ta q2 q3 w V) (t : Below V.heap.size V V') : Bx G ts to ta q2 q3 w V' :=
  ⟨h.b.trans (t.mono h.b.size), (t.block _ (lt_of_heap h.h2)).trans h.h2, (t.block _ (lt_of_heap h.h3)).trans h.h3⟩
theorem Bx.drewN {G : Gf} {ts to ta : ByteArray} {q2 q3 : Nat} {w V : World} (h : Bx G ts to ta q2 q3 w V) (n : Nat) : Bx G ts to ta q2 q3 w (V.drewN n) := h.below ⟨rfl, rfl, rfl, Nat.le_refl _, fun _ _ => rfl⟩
theorem Bx.mk2 (G : Gf) (ts to ta : ByteArray) (w : World) : Bx G ts to ta w.heap.size (w.heap.size + 1) w ((w.alloc (.cells #[.slice G.a.1 G.a.2.2.length G.a.2.1, .slice G.s.1 G.s.2.2.length G.s.2.1, .slice G.o.1 G.o.2.2.length G.o.2.1, .slice G.f.1 G.f.2.2.length G.f.2.1, .slice G.n.1 G.n.2.2.length G.n.2.1, .slice G.m.1 G.m.2.2.length G.m.2.1] 28)).alloc (.cells #[.string ts, .string to, .string ta] 32)) := by
  have a1 := heap_alloc_new w (.cells #[.slice G.a.1 G.a.2.2.length G.a.2.1, .slice G.s.1 G.s.2.2.length G.s.2.1, .slice G.o.1 G.o.2.2.length G.o.2.1, .slice G.f.1 G.f.2.2.length G.f.2.1, .slice G.n.1 G.n.2.2.length G.n.2.1, .slice G.m.1 G.m.2.2.length G.m.2.1] 28)
  have a2 := heap_alloc_new (w.alloc (.cells #[.slice G.a.1 G.a.2.2.length G.a.2.1, .slice G.s.1 G.s.2.2.length G.s.2.1, .slice G.o.1 G.o.2.2.length G.o.2.1, .slice G.f.1 G.f.2.2.length G.f.2.1, .slice G.n.1 G.n.2.2.length G.n.2.1, .slice G.m.1 G.m.2.2.length G.m.2.1] 28)) (.cells #[.string ts, .string to, .string ta] 32)
  have z1 : (w.alloc (.cells #[.slice G.a.1 G.a.2.2.length G.a.2.1, .slice G.s.1 G.s.2.2.length G.s.2.1, .slice G.o.1 G.o.2.2.length G.o.2.1, .slice G.f.1 G.f.2.2.length G.f.2.1, .slice G.n.1 G.n.2.2.length G.n.2.1, .slice G.m.1 G.m.2.2.length G.m.2.1] 28)).heap.size = w.heap.size + 1 := by simp
  rw [z1] at a2
  exact ⟨((Below.refl _ _).alloc (Nat.le_refl _) _).alloc (by simp) _, (Below.heap_alloc _ _ _ (by omega)).trans a1, a2⟩
theorem Bx.cs {G : Gf} {ts to ta : ByteArray} {q2 q3 : Nat} {w V : World} (h : Bx G ts to ta q2 q3 w V) : V.cell? ⟨q2, 0, none⟩ = some (.slice G.a.1 G.a.2.2.length G.a.2.1) ∧ V.cell? ⟨q2, 1, none⟩ = some (.slice G.s.1 G.s.2.2.length G.s.2.1) ∧ V.cell? ⟨q2, 2, none⟩ = some (.slice G.o.1 G.o.2.2.length G.o.2.1) ∧ V.cell? ⟨q2, 3, none⟩ = some (.slice G.f.1 G.f.2.2.length G.f.2.1) ∧ V.cell? ⟨q2, 4, none⟩ = some (.slice G.n.1 G.n.2.2.length G.n.2.1) ∧ V.cell? ⟨q2, 5, none⟩ = some (.slice G.m.1 G.m.2.2.length G.m.2.1) ∧ V.cell? ⟨q3, 0, none⟩ = some (.string ts) ∧ V.cell? ⟨q3, 1, none⟩ = some (.string to) ∧ V.cell? ⟨q3, 2, none⟩ = some (.string ta) :=
  ⟨by rw [Lib.cell_of_heap h.h2]; rfl, by rw [Lib.cell_of_heap h.h2]; rfl, by rw [Lib.cell_of_heap h.h2]; rfl, by rw [Lib.cell_of_heap h.h2]; rfl, by rw [Lib.cell_of_heap h.h2]; rfl, by rw [Lib.cell_of_heap h.h2]; rfl, by rw [Lib.cell_of_heap h.h3]; rfl, by rw [Lib.cell_of_heap h.h3]; rfl, by rw [Lib.cell_of_heap h.h3]; rfl⟩
theorem atI_rng {zs : List Int} (h : ∀ z ∈ zs, -9223372036854775808 ≤ z ∧ z ≤ 9223372036854775807) (i : Int) : -9223372036854775808 ≤ atI zs i ∧ atI zs i ≤ 9223372036854775807 := by
  unfold atI
  split
  · cases hz : zs[i.toNat]? with
    | none => simp [List.getD, hz]
    | some z => have := h z (List.mem_of_getElem? hz); simp [List.getD, hz]; exact this
  · omega
theorem atR_ok {G : Gf} {w : World} (h : G.In w) (i : Int) : Ok (fun z : Nat => Value.int .u16 (z : Int)) ((atR G.m.2.2 i).ro, (atR G.m.2.2 i).rc, (atR G.m.2.2 i).l) w ∧ ∀ z ∈ (atR G.m.2.2 i).l, z < 65536 := by
  have h0 : Ok (fun z : Nat => Value.int .u16 (z : Int)) (mr0.ro, mr0.rc, mr0.l) w ∧ ∀ z ∈ mr0.l, z < 65536 := ⟨⟨.inl rfl, Nat.le_refl _, by decide⟩, fun z hz => by cases hz⟩
  unfold atR
  split
  · cases hz : G.m.2.2[i.toNat]? with
    | none => simp only [List.getD, hz, Option.getD_none]; exact h0
    | some r => simp only [List.getD, hz, Option.getD_some]; exact h.r r (List.mem_of_getElem? hz)
  · exact h0
theorem atN_lt {zs : List Nat} (h : ∀ z ∈ zs, z < 65536) (i : Int) : atN zs i < 65536 := by
  unfold atN
  split
  · cases hz : zs[i.toNat]? with
    | none => simp [List.getD, hz]
    | some z => have := h z (List.mem_of_getElem? hz); simp [List.getD, hz]; exact this
  · omega
theorem mk1_lt (i : Int) : mk1 i < 65536 := by
  unfold mk1
  split
  · rename_i h
    have : i.toNat < 16 := by unfold inb at h; simp at h; omega
    exact (u16_pow _ this).2
  · omega
theorem nz (n : Nat) : (((n : Nat) : Int) != 0) = !(n == 0) := by cases n <;> simp <;> omega
theorem wrap_prd {x : Int} (h : -9223372036854775808 ≤ x ∧ x ≤ 9223372036854775807) : wrap64 (x - 1) = prd x := by
  unfold prd wrap64
  split <;> omega
set_option maxHeartbeats 2000000 in
set_option maxRecDepth 100000 in
theorem decide_any (G : Gf) (ts to ta : ByteArray) (w : World) (h : G.In w) :
    Calls Try.prog 11 #[.agg #[.slice G.a.1 G.a.2.2.length G.a.2.1, .slice G.s.1 G.s.2.2.length G.s.2.1, .slice G.o.1 G.o.2.2.length G.o.2.1, .slice G.f.1 G.f.2.2.length G.f.2.1, .slice G.n.1 G.n.2.2.length G.n.2.1, .slice G.m.1 G.m.2.2.length G.m.2.1], .agg #[.string ts, .string to, .string ta]] w fun e w' => e = .returned (.bool (G.dec ts to ta)) ∧ Below w.heap.size w w' := by
  have H := hide' h
  clear h
  go_enter Try.func11, Try.ntmps11
  go_wp2_with fail
  have B0 := hide' (Bx.mk2 G ts to ta w)
  obtain ⟨V, hV⟩ : ∃ V, V = ((w.alloc (.cells #[.slice G.a.1 G.a.2.2.length G.a.2.1, .slice G.s.1 G.s.2.2.length G.s.2.1, .slice G.o.1 G.o.2.2.length G.o.2.1, .slice G.f.1 G.f.2.2.length G.f.2.1, .slice G.n.1 G.n.2.2.length G.n.2.1, .slice G.m.1 G.m.2.2.length G.m.2.1] 28)).alloc (.cells #[.string ts, .string to, .string ta] 32)) := ⟨_, rfl⟩
  rw [← hV] at B0
  rw [← hV]
  clear hV
  obtain ⟨q2, hq2⟩ : ∃ q2, q2 = w.heap.size := ⟨_, rfl⟩
  generalize hq3 : w.heap.size + 1 = q3 at *
  rw [← hq2]
  rw [← hq2] at B0
  clear hq2 hq3
  obtain ⟨e0, e1, e2, e3, e4, e5, t0, t1, t2⟩ := B0.out.cs
  have C1 : Hid (∀ n, Calls Try.prog 35 #[.slice G.s.1 G.s.2.2.length G.s.2.1, .string ts] (V.drewN n) fun e w' => e = .returned (.int .i64 (fdx G.s.2.2 ts)) ∧ w' = V.drewN n) := fun n => index_any _ _ _ _ _ (H.out.below (B0.out.drewN n).b).s.1 H.out.s.2.1 H.out.s.2.2
  have C2 : Hid (∀ n, Calls Try.prog 34 #[.slice G.f.1 G.f.2.2.length G.f.2.1, .int .i64 (fdx G.s.2.2 ts)] (V.drewN n) fun e w' => e = .returned (.int .i64 (G.x ts)) ∧ w' = V.drewN n) := fun n => atI_any _ _ _ _ _ (H.out.below (B0.out.drewN n).b).f.1 H.out.f.2.1
  go_quiet ((first | (go_at_call 35; exact Calls.quiet_of_same (C1.out _)) | (go_at_call 34; exact Calls.quiet_of_same (C2.out _))))
  have B1 := hide' (B0.out.drewN nq)
  clear e0 e1 e2 e3 e4 e5 t0 t1 t2 C1 C2 B0
  generalize V.drewN nq = V1 at *
  clear V nq
  obtain ⟨e0, e1, e2, e3, e4, e5, t0, t1, t2⟩ := B1.out.cs
  have hx : Hid (-9223372036854775808 ≤ G.x ts ∧ G.x ts ≤ 9223372036854775807) := atI_rng H.out.fi _
  have hy : Hid (-9223372036854775808 ≤ G.y to ∧ G.y to ≤ 9223372036854775807) := atI_rng H.out.ni _
  go_wp2_with fail
  have C1 : Hid (∀ n, Calls Try.prog 35 #[.slice G.o.1 G.o.2.2.length G.o.2.1, .string to] (V1.drewN n) fun e w' => e = .returned (.int .i64 (fdx G.o.2.2 to)) ∧ w' = V1.drewN n) := fun n => index_any _ _ _ _ _ (H.out.below (B1.out.drewN n).b).o.1 H.out.o.2.1 H.out.o.2.2
  have C2 : Hid (∀ n, Calls Try.prog 34 #[.slice G.n.1 G.n.2.2.length G.n.2.1, .int .i64 (fdx G.o.2.2 to)] (V1.drewN n) fun e w' => e = .returned (.int .i64 (G.y to)) ∧ w' = V1.drewN n) := fun n => atI_any _ _ _ _ _ (H.out.below (B1.out.drewN n).b).n.1 H.out.n.2.1
  go_quiet ((first | (go_at_call 35; exact Calls.quiet_of_same (C1.out _)) | (go_at_call 34; exact Calls.quiet_of_same (C2.out _))))
  have B2 := hide' (B1.out.drewN nq)
  clear e0 e1 e2 e3 e4 e5 t0 t1 t2 C1 C2 B1
  generalize V1.drewN nq = V2 at *
  clear V1 nq
  obtain ⟨e0, e1, e2, e3, e4, e5, t0, t1, t2⟩ := B2.out.cs
  go_wp2_with fail
  rw [wrap_prd hx.out]
  obtain ⟨R, hR⟩ : ∃ R, R = atR G.m.2.2 (prd (G.x ts)) := ⟨_, rfl⟩
  have HR := hide' (atR_ok (H.out.below B2.out.b) (prd (G.x ts)))
  have HM := hide' (H.out.below B2.out.b).m
  have KK : Hid (G.k ts to = atN R.l (prd (G.y to))) := by rw [hR]; rfl
  have c37 := hide' (atR_any G.m.1 G.m.2.1 G.m.2.2 (prd (G.x ts)) V2 HM.out.1 HM.out.2.1)
  rw [← hR] at HR c37
  unfold Mr.cell at c37
  clear hR
  refine c37.out.mono ?_
  rintro e _ ⟨rfl, rfl⟩
  clear c37
  go_wp2_with fail
  rw [wrap_prd hy.out]
  refine (atN_any R.ro R.rc R.l (prd (G.y to)) _ HR.out.1.1 HR.out.1.2.1).mono ?_
  rintro e _ ⟨rfl, rfl⟩
  have HB : Hid (atN R.l (prd (G.y to)) < 65536) := atN_lt HR.out.2 _
  rw [← KK.out] at HB
  rw [← KK.out]
  clear KK HR HM
  obtain ⟨kk, hkk⟩ : ∃ kk, kk = G.k ts to := ⟨_, rfl⟩
  have KD : Hid (G.dec ts to ta = !((kk &&& mk1 (fdx G.a.2.2 ta)) == 0)) := by rw [hkk]; rfl
  rw [← hkk]
  rw [← hkk] at HB
  clear hkk
  go_wp2_with fail
  refine (index_any G.a.1 G.a.2.1 G.a.2.2 ta _ (H.out.below B2.out.b).a.1 H.out.a.2.1 H.out.a.2.2).mono ?_
  rintro e V3 ⟨rfl, rfl⟩
  generalize fdx G.a.2.2 ta = fi at *
  go_wp2_with fail
  refine (mask_one _ fi _ (heap_alloc_new V3 _)).mono ?_
  rintro e _ ⟨rfl, rfl⟩
  have hm : Hid (mk1 fi < 65536) := mk1_lt fi
  have hbt : Hid (bits .and .u16 (kk : Int) (mk1 fi : Nat) = ((kk &&& mk1 fi : Nat) : Int)) := u16_and_nat kk (mk1 fi) HB.out hm.out
  generalize mk1 fi = mm at *
  go_wp2_with fail
  go_ret
  refine ⟨?_, B2.out.b.alloc B2.out.b.size _⟩
  rw [KD.out]
  show Ending.returned (.bool (bits BinOp.and .u16 (kk : Int) (mm : Nat) != 0)) = _
  rw [hbt.out, nz]
end D
end Go.Proofs.Ytmcdifmbblbhgaa
