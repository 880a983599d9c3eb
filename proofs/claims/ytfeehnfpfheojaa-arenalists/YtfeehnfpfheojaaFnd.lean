import Derived.Test.YtfeehnfpfheojaaMore
set_option linter.unusedVariables false
set_option linter.unusedSimpArgs false
namespace Go.Proofs.Ytfeehnfpfheojaa
open Go.RowKit Go.Sort
namespace Fr
variable {D : Nat → Prop} {B h : Nat} {F : List Bk} {cnt : Nat} {w w' : World}
/-- what lowest answers and leaves -/
def lowR : List Bk → Bk × Bool × List Bk
  | [] => (z0, false, [])
  | b :: r => ((grp b r).1, true, (grp b r).2)
theorem lowest_any (H : Fr D B h F cnt w) (hd : Dis F) (ho : Oks F) : Calls Try.prog 79 #[.pointer (some ⟨h, 0, none⟩)] w fun e w' => e = .returned (.tuple #[.agg #[.int .i64 (lowR F).1.addr, .int .i64 (lowR F).1.size, .bool (lowR F).1.free], .bool (lowR F).2.1]) ∧ FTo D B h (lowR F).2.2 cnt w w' := by
  cases F with
  | nil => exact (lowest_none H).mono fun e w' ⟨he, b⟩ => ⟨he, FTo.below H b⟩
  | cons b r => exact lowest_some H (hd.srt ho) ho (by have := few hd ho; simp at this; omega)
/-- how it stands behind a call of lowest -/
def St (N S : List Bk) (p : Bk) (ok : Bool) (FR : List Bk) : Prop := (ok = true ∧ N = S ++ p :: norm FR ∧ Dis (S ++ p :: FR) ∧ Oks (S ++ p :: FR)) ∨ (ok = false ∧ FR = [] ∧ N = S ∧ Dis S ∧ Oks S)
theorem St.start (hd : Dis F) (ho : Oks F) : St (norm F) [] (lowR F).1 (lowR F).2.1 (lowR F).2.2 := by
  cases F with
  | nil => exact .inr ⟨rfl, rfl, rfl, .nil, fun x hx => by cases hx⟩
  | cons b r =>
    obtain ⟨h1, h2⟩ := grp_next (S := []) hd ho
    exact .inl ⟨rfl, grp_norm b r, h1, h2⟩
theorem St.step {N S FR : List Bk} {p : Bk} (h : St N S p true FR) : St N (S ++ [p]) (lowR FR).1 (lowR FR).2.1 (lowR FR).2.2 := by
  rcases h with ⟨_, hN, hd, ho⟩ | ⟨q, _⟩
  · cases FR with
    | nil => exact .inr ⟨rfl, rfl, hN, hd, ho⟩
    | cons b r =>
      have hd' : Dis ((S ++ [p]) ++ b :: r) := by simpa using hd
      have ho' : Oks ((S ++ [p]) ++ b :: r) := by simpa using ho
      obtain ⟨h1, h2⟩ := grp_next hd' ho'
      refine .inl ⟨rfl, ?_, h1, h2⟩
      rw [hN, grp_norm]
      simp [lowR]
  · cases q
theorem St.fr {N S FR : List Bk} {p : Bk} {ok : Bool} (h : St N S p ok FR) : Dis FR ∧ Oks FR ∧ Dis (S ++ FR) ∧ Oks (S ++ FR) := by
  rcases h with ⟨_, hN, hd, ho⟩ | ⟨_, rfl, _, hd, ho⟩
  · obtain ⟨d1, d2, d3⟩ := dis_app.1 hd
    obtain ⟨o1, o2⟩ := oks_app.1 ho
    have dF := (List.pairwise_cons.1 d2).2
    have oF : Oks FR := fun x hx => o2 x (List.mem_cons_of_mem _ hx)
    exact ⟨dF, oF, dis_app.2 ⟨d1, dF, fun a ha c hc => d3 a ha c (List.mem_cons_of_mem _ hc)⟩, oks_app.2 ⟨o1, oF⟩⟩
  · exact ⟨.nil, (fun x hx => by cases hx), by simpa using hd, by simpa using ho⟩
/-- the state of the first loop -/
structure Fs (D : Nat → Prop) (B h cnt : Nat) (N : List Bk) (n : Int) (w : World) (b4 b7 : Nat) (so : Option Addr) (sc : Nat) (S : List Bk) (p : Bk) (ok : Bool) (FR : List Bk) (wx : World) : Prop where
  to : FTo D B h FR cnt w wx
  row : RowB w.heap.size so sc S wx
  sml : ∀ s ∈ S, s.size < n
  st : St N S p ok FR
  h4 : wx.heap[b4]? = some (.cells (cz z0) 110 (0, 0))
  h7 : wx.heap[b7]? = some (.cells (cz p) 110 (0, 0))
  n47 : b4 ≠ b7
  l4 : w.heap.size ≤ b4
  l7 : w.heap.size ≤ b7
  son : ∀ j, M.At so j → j ≠ b4 ∧ j ≠ b7
variable {N : List Bk} {n : Int} {b4 b7 : Nat} {so : Option Addr} {sc : Nat} {S : List Bk} {p : Bk} {ok : Bool} {FR : List Bk} {wx : World}
theorem FTo.sz (T : FTo D B h F cnt w w') : w.heap.size ≤ w'.heap.size := by obtain ⟨_, _, t, _⟩ := T; exact t.size
theorem fs_few (L : Fs D B h cnt N n w b4 b7 so sc S p ok FR wx) : S.length ≤ 65536 := by
  obtain ⟨_, _, h3, h4⟩ := L.st.fr
  have := few h3 h4
  rw [List.length_append] at this
  omega
/-- a round: a piece more that is too small, then the next -/
theorem Fs.step {gg cap' : Nat} {w1 w2 : World} (L : Fs D B h cnt N n w b4 b7 so sc S p true FR wx) (hs : p.size < n) (r1 : RowB w.heap.size (some ⟨gg, 0, none⟩) cap' (S ++ [p]) w1) (t1 : Turn (M.At so) wx w1) (hg : M.At so gg ∨ wx.heap.size ≤ gg)
    {D0 : Nat → Prop} (f0 : Fr D0 B h FR cnt wx) (t0 : Turn D w wx) (s0 : ∀ j, D0 j → D j ∨ w.heap.size ≤ j) (T2 : FTo D0 B h (lowR FR).2.2 cnt w1 w2) : Fs D B h cnt N n w b4 b7 (some ⟨gg, 0, none⟩) cap' (S ++ [p]) (lowR FR).1 (lowR FR).2.1 (lowR FR).2.2 (set3 w2 b7 (lowR FR).1) := by
  have nD : ∀ j, M.At so j → ¬ D0 j := fun j hj q => by
    obtain ⟨_, _, c, hc⟩ := L.row.lt hj
    exact f0.not hc (by decide) (by decide) q
  have f1 : Fr D0 B h FR cnt w1 := f0.kept t1 (fun j q r => nD j r q)
  have l4 := lt_of_heap L.h4
  have l7 := lt_of_heap L.h7
  have k4 : w1.heap[b4]? = some (.cells (cz z0) 110 (0, 0)) := (t1.block b4 l4 (fun q => (L.son _ q).1 rfl)).trans L.h4
  have k7 : w1.heap[b7]? = some (.cells (cz p) 110 (0, 0)) := (t1.block b7 l7 (fun q => (L.son _ q).2 rfl)).trans L.h7
  have m4 := T2.box (fun j q => (f1.lo q).2) f1 k4
  have m7 := T2.box (fun j q => (f1.lo q).2) f1 k7
  have szx : w.heap.size ≤ wx.heap.size := t0.size
  have tw1 : Turn D w w1 := t0.then t1 (fun i hi q => by have := (L.row.lt q).1; omega)
  have sz1 := tw1.size
  have T3 : FTo D B h (lowR FR).2.2 cnt w w2 := FTo.on tw1 s0 T2
  have tB := set3_turn b7 (lowR FR).1 w2
  have T4 := T3.more tB (fun j e => by rw [e]; exact L.l7) (fun D1 j f q e => by subst e; exact f.box m7 q)
  have g4 : gg ≠ b4 ∧ gg ≠ b7 := by
    rcases hg with q | q
    · exact L.son _ q
    · exact ⟨by omega, by omega⟩
  have r2 : RowB w.heap.size (some ⟨gg, 0, none⟩) cap' (S ++ [p]) w2 := by
    obtain ⟨D2, f2, t2, s2⟩ := T2
    refine r1.kept t2 (fun j hj q => ?_)
    obtain ⟨_, _, c, hc⟩ := r1.lt hj
    exact f1.not hc (by decide) (by decide) q
  refine ⟨T4, r2.kept tB (fun j hj e => ?_), fun s hs' => ?_, L.st.step, ?_, set3_row _ m7, L.n47, L.l4, L.l7, fun j hj => ?_⟩
  · obtain ⟨a, ha, rfl⟩ := hj
    cases ha
    exact g4.2 e
  · rcases List.mem_append.1 hs' with q | q
    · exact L.sml s q
    · rw [List.mem_singleton.1 q]; exact hs
  · exact (tB.block b4 (lt_of_heap m4) L.n47).trans m4
  · obtain ⟨a, ha, rfl⟩ := hj
    cases ha
    exact g4
/-- the state of the second loop -/
structure Fp (D : Nat → Prop) (B h cnt : Nat) (w : World) (b4 b7 : Nat) (so : Option Addr) (sc : Nat) (S : List Bk) (p : Bk) (FR : List Bk) (k : Nat) (wx : World) : Prop where
  to : FTo D B h (S.take k ++ FR) (cnt + k) w wx
  row : RowB w.heap.size so sc S wx
  h4 : wx.heap[b4]? = some (.cells (cz z0) 110 (0, 0))
  h7 : wx.heap[b7]? = some (.cells (cz p) 110 (0, 0))
theorem Fs.turn (L : Fs D B h cnt N n w b4 b7 so sc S p ok FR wx) : Fp D B h cnt w b4 b7 so sc S p FR 0 wx := ⟨by simpa using L.to, L.row, L.h4, L.h7⟩
theorem Fp.step {k : Nat} {s : Bk} {w1 : World} (L : Fp D B h cnt w b4 b7 so sc S p FR k wx) (hk : S[k]? = some s) {D0 : Nat → Prop} (f0 : Fr D0 B h (S.take k ++ FR) (cnt + k) wx) (t0 : Turn D w wx) (s0 : ∀ j, D0 j → D j ∨ w.heap.size ≤ j) {w2 : World} (b1 : Below wx.heap.size wx w1) (T : FTo D0 B h (S.take (k + 1) ++ FR) (cnt + k + 1) w1 w2) : Fp D B h cnt w b4 b7 so sc S p FR (k + 1) w2 := by
  have f1 := f0.below b1
  have k4 := (b1.block b4 (lt_of_heap L.h4)).trans L.h4
  have k7 := (b1.block b7 (lt_of_heap L.h7)).trans L.h7
  have r1 : RowB w.heap.size so sc S w1 := L.row.kept (turn_below (S := fun _ => False) b1) (fun _ _ q => q)
  have tw1 : Turn D w w1 := t0.trans (turn_below b1)
  refine ⟨FTo.on tw1 s0 T, ?_, T.box (fun j q => (f1.lo q).2) f1 k4, T.box (fun j q => (f1.lo q).2) f1 k7⟩
  obtain ⟨D2, f2, t2, s2⟩ := T
  refine r1.kept t2 (fun j hj q => ?_)
  obtain ⟨_, _, c, hc⟩ := r1.lt hj
  exact f1.not hc (by decide) (by decide) q
/-- what find leaves -/
def FindIs (D : Nat → Prop) (B h cnt : Nat) (N : List Bk) (n : Int) (w : World) (e : Ending) (w' : World) : Prop :=
  ∃ S p ok FR, e = .returned (.tuple #[.agg #[.int .i64 p.addr, .int .i64 p.size, .bool p.free], .bool ok]) ∧ St N S p ok FR ∧ (∀ s ∈ S, s.size < n) ∧ (ok = true → n ≤ p.size) ∧ FTo D B h (S ++ FR) (cnt + S.length) w w'
end Fr
end Go.Proofs.Ytfeehnfpfheojaa
