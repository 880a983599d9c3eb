import Derived.Test.YtjhnlmedmpcgoaaTbq
set_option linter.unusedVariables false
set_option linter.unusedSimpArgs false
namespace Go.Proofs.Ytjhnlmedmpcgoaa
open Go.RowKit
namespace Q
open C (Tk)
variable {D U : Nat → Prop} {B : Nat} {m : Mr} {w w' : World} {s : Sq} {Db : Nat → Prop} {P E : Nat → Nat → Prop}
theorem info95 : (Try.prog.info? 95).map (fun i => (i.zero, i.size, i.bytes)) = some (some (.agg #[.int .i64 0, .int .i64 0]), 2, 16) := by kernel_rfl
theorem info26 : (Try.prog.info? 26).map (fun i => (i.zero, i.size, i.bytes)) = some (some (.pointer none), 1, 8) := by kernel_rfl
theorem info24 : (Try.prog.info? 24).map (fun i => (i.zero, i.size, i.bytes)) = some (some (.pointer none), 1, 8) := by kernel_rfl
theorem info76 : (Try.prog.info? 76).map (fun i => (i.zero, i.size, i.bytes)) = some (some (.pointer none), 1, 8) := by kernel_rfl
theorem stp_len (n : Int) (ts : List Int) (v : Int) : (C.stp n ts v).length ≤ ts.length + 1 := by unfold C.stp; split <;> simp
theorem stp_le {n : Int} {ts : List Int} (v : Int) (h : (ts.length : Int) ≤ n) : ((C.stp n ts v).length : Int) ≤ n := by
  unfold C.stp
  split
  · simp; omega
  · exact h
theorem lst_fn {n : Int} {ts : List Int} (h1 : 1 ≤ n) (h : (ts.length : Int) ≤ n) : C.lst n ts = W.fn n ts.length := by
  unfold C.lst W.fn
  congr 1
  exact propext ⟨fun q => ⟨h1, by omega⟩, fun q => by omega⟩
/-- a step of a machine of the document's -/
theorem dm_step (v : Int) (h : Dm D B m w) (hB : B ≤ w.heap.size) (hs : m.ts.length < 17592186043904) : Calls Try.prog 16 #[ptr m.b, .int .i64 v] w fun e w' => e = .returned (.bool (m.fin v)) ∧ ∃ D', Dm D' B (m.up v) w' ∧ Turn D w w' ∧ ∀ j, D' j → D j ∨ w.heap.size ≤ j := by
  rcases h with ⟨e, h⟩ | ⟨e, h, h1, h2⟩
  · refine (N.step_any v h hB hs).mono ?_
    rintro r w' ⟨rfl, D', k1, k2, k3⟩
    refine ⟨by unfold Mr.fin Mr.nx; rw [e]; rfl, D', .inl ⟨e, ?_⟩, k2, k3⟩
    unfold Mr.up Mr.nx
    rw [e]
    exact k1
  · refine (R.step_any v h hB hs h2).mono ?_
    rintro r w' ⟨rfl, D', k1, k2, k3⟩
    refine ⟨?_, D', .inr ⟨e, ?_, h1, ?_⟩, k2, k3⟩
    · rw [lst_fn h1 (stp_le v h2)]
      unfold Mr.fin Mr.nx
      rw [e]
      rfl
    · unfold Mr.up Mr.nx
      rw [e]
      exact k1
    · unfold Mr.up Mr.nx
      rw [e]
      exact stp_le v h2
/-- a step of a counter or one of ours, as the board asks it -/
theorem up_b (m : Mr) (v : Int) : (m.up v).b = m.b ∧ (m.up v).o = m.o ∧ (m.up v).n = m.n ∧ (m.up v).ts = m.nx v := ⟨rfl, rfl, rfl, rfl⟩
set_option maxRecDepth 100000 in
set_option maxHeartbeats 4000000 in
theorem rjoin_full (i : Int) (h : Tb B s Db P E w) (hl : 64 ≤ s.T.length) (hl2 : s.T.length ≤ 64) : Calls Try.prog 57 #[.pointer (some ⟨s.t, 1, none⟩), .int .i64 i] w fun e w' => e = .returned (.tuple #[.int .i64 0, .bool false]) ∧ w' = w := by
  have c2 : w.cell? ⟨s.t, 2, none⟩ = some (.slice s.rt.a s.T.length s.rt.c) := h.c 2
  obtain ⟨n, hn⟩ : ∃ n, n = s.T.length := ⟨_, rfl⟩
  rw [← hn] at c2 hl hl2
  have hl3 : 64 ≤ (n : Int) := by omega
  clear h hn hl hl2
  generalize s.t = t at *
  generalize s.rt.a = a at *
  generalize s.rt.c = c at *
  go_enter Try.func57, Try.ntmps57
  go_wp2
  go_ret2
  exact ⟨rfl, rfl⟩
set_option maxRecDepth 100000 in
set_option maxHeartbeats 4000000 in
theorem rjoin_ok (i : Nat) (h : Tb B s Db P E w) (hB : B ≤ w.heap.size) (hl : s.T.length < 64) : Calls Try.prog 57 #[.pointer (some ⟨s.t, 1, none⟩), .int .i64 (i : Int)] w fun e w' => e = .returned (.tuple #[.int .i64 (s.T.length : Nat), .bool true]) ∧ ∃ rt', To B { s with T := s.T ++ [(i, -1)], rt := rt' } (Sb s Db P E) w w' := by
  have c2 : w.cell? ⟨s.t, 2, none⟩ = some (.slice s.rt.a s.T.length s.rt.c) := h.c 2
  have f2 := h.fx 2
  have lt := h.lt
  have H := hide' h
  have n1 : Hid (s.T.length < 17592186044000) := (show s.T.length < 17592186044000 by omega)
  have HB := hide' hB
  have hl3 : ¬ 64 ≤ (s.T.length : Int) := by omega
  have na : ∀ o, (w.alloc o).heap.size = w.heap.size + 1 := fun o => by simp
  have nt : ¬ At s.rt.a s.t := fun q => by have := (row_kd h.hT q).1.det h.kt; omega
  have HR : Hid (w.ownsRow B 95 2 (.slice s.rt.a s.T.length s.rt.c) s.T.length (s.T.flatMap tkd)) := hide' h.hT
  have HN := hide' hl
  have HW : Hid (wrap64 ((s.T.length : Int) + 1 - 1) = (s.T.length : Int)) := hide' (wrap_in (by omega) (by omega) |>.trans (by omega))
  clear h hB hl
  go_enter Try.func57, Try.ntmps57
  go_wp2_with (at_builtin; refine wpList_more (e := 95) (m := 2) Try.underlying41 info95 rfl (by omega) w rfl _ _ rfl HR.out n1 (.inr ⟨by omega, Nat.lt_of_lt_of_le HN.out (by omega)⟩) HB.out [.int .i64 (i : Int), .int .i64 (-1)] rfl (by simp [Value.oneCell']) _ rfl rfl ?_; intro gg cap' w1 r1 t1 hg1; have K1 := hide' (H.out.growT (x := (i, -1)) (Below.refl _ _) r1 t1 hg1); have a0 : w1.cell? ⟨s.t, 2, none⟩ = some (.slice s.rt.a s.T.length s.rt.c) := (t1.cell (p := ⟨s.t, 2, none⟩) lt nt).trans c2; have a1 : w1.frozen? ⟨s.t, 2, none⟩ = false := World.frozen?_of_block (w := w) (t1.block s.t lt nt) |>.trans f2; have b0 : (w1.setCell ⟨s.t, 2, none⟩ (.slice (some ⟨gg, 0, none⟩) (s.T.length + 1) cap')).cell? ⟨s.t, 2, none⟩ = some (.slice (some ⟨gg, 0, none⟩) (s.T.length + 1) cap') := (by obtain ⟨_, _, _, z, _⟩ := K1.out; have := z.c 2; simpa [Sq.cs, Sl.v] using this); clear r1 t1 hg1)
  go_ret2
  refine ⟨?_, _, K1.out⟩
  congr 3
end Q
end Go.Proofs.Ytjhnlmedmpcgoaa
