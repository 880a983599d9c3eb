import Derived.Test.YthgidcfelijomaaPin
set_option linter.unusedVariables false
set_option linter.unusedSimpArgs false
namespace Go.Proofs.Ythgidcfelijomaa
namespace Pin
open Go.ChangeShapes Go.WideShapes Go.ChangeAt Go.RowKit
open Go.ChangeMaps (open_string shut_string)
theorem cells29 : Try.prog.cellsOf 29 = 1 := by kernel_rfl
theorem cells30 : Try.prog.cellsOf 30 = 1 := by kernel_rfl
theorem cells31 : Try.prog.cellsOf 31 = 1 := by kernel_rfl
theorem cells32 : Try.prog.cellsOf 32 = 1 := by kernel_rfl
theorem cells34 : Try.prog.cellsOf 34 = 11 := by kernel_rfl
theorem fields34 : ∃ f0 f1 f2 f3 f4 f5 f6 f7 f8 f9 f10 : Field, Try.prog.underlying 34 = some (.struct #[f0, f1, f2, f3, f4, f5, f6, f7, f8, f9, f10]) ∧ (f0.offset = 0 ∧ f1.offset = 1 ∧ f2.offset = 2 ∧ f3.offset = 3 ∧ f4.offset = 4 ∧ f5.offset = 5 ∧ f6.offset = 6 ∧ f7.offset = 7 ∧ f8.offset = 8 ∧ f9.offset = 9 ∧ f10.offset = 10) ∧ (f0.type = 25 ∧ f1.type = 29 ∧ f2.type = 25 ∧ f3.type = 25 ∧ f4.type = 25 ∧ f5.type = 30 ∧ f6.type = 30 ∧ f7.type = 30 ∧ f8.type = 30 ∧ f9.type = 31 ∧ f10.type = 32) := ⟨_, _, _, _, _, _, _, _, _, _, _, Try.underlying34, ⟨rfl, rfl, rfl, rfl, rfl, rfl, rfl, rfl, rfl, rfl, rfl⟩, ⟨rfl, rfl, rfl, rfl, rfl, rfl, rfl, rfl, rfl, rfl, rfl⟩⟩
set_option maxRecDepth 100000 in
set_option maxHeartbeats 2000000 in
/-- a policy that came in -/
theorem pol_in {H : Type} {enc : TypeId × Value → H} {W : World} {base : Nat} {spare : Nat → Bool} {held : Bool} {n : Nat} {cs : List Value} {x : DataW H × List MemPlace} (hl : cs.length = 11) (h : DataW.trod enc Try.prog W base spare held n 34 cs = some x) (hB : Rows.uptoBulk x.1 ≤ 1048576) : ∃ F : U.Pf, cs.toArray = F.arr ∧ F.In W ∧ F.Small ∧ F.po.Small := by
  obtain ⟨f0, f1, f2, f3, f4, f5, f6, f7, f8, f9, f10, he, ⟨o0, o1, o2, o3, o4, o5, o6, o7, o8, o9, o10⟩, ⟨t0, t1, t2, t3, t4, t5, t6, t7, t8, t9, t10⟩⟩ := fields34
  obtain ⟨xs, k, hk, hxy, _, hxl, hff⟩ := DataW.trod_struct he h
  match xs, hxl, cs, hl with
  | [y0, y1, y2, y3, y4, y5, y6, y7, y8, y9, y10], _, [v0, v1, v2, v3, v4, v5, v6, v7, v8, v9, v10], _ =>
    have g0 := hff 0 f0 rfl
    have g1 := hff 1 f1 rfl
    have g2 := hff 2 f2 rfl
    have g3 := hff 3 f3 rfl
    have g4 := hff 4 f4 rfl
    have g5 := hff 5 f5 rfl
    have g6 := hff 6 f6 rfl
    have g7 := hff 7 f7 rfl
    have g8 := hff 8 f8 rfl
    have g9 := hff 9 f9 rfl
    have g10 := hff 10 f10 rfl
    simp [o0, o1, o2, o3, o4, o5, o6, o7, o8, o9, o10, t0, t1, t2, t3, t4, t5, t6, t7, t8, t9, t10, cells25, cells29, cells30, cells31, cells32] at g0 g1 g2 g3 g4 g5 g6 g7 g8 g9 g10
    obtain ⟨a0, c0, l0, e0, i0, h0, n0, b0, q0⟩ := rows_in ByteArray.empty (fun s => [Value.string s]) (fun s => s.size) (fun _ => True) Try.underlying25 cells9 (by decide) dec9 g0
    obtain ⟨a1, c1, l1, e1, i1, h1, n1, b1, q1⟩ := rows_in (ByteArray.empty, 0) T.cells (fun q => q.1.size) (fun _ => True) Try.underlying29 cells50 (by decide) dec50 g1
    obtain ⟨a2, c2, l2, e2, i2, h2, n2, b2, q2⟩ := rows_in ByteArray.empty (fun s => [Value.string s]) (fun s => s.size) (fun _ => True) Try.underlying25 cells9 (by decide) dec9 g2
    obtain ⟨a3, c3, l3, e3, i3, h3, n3, b3, q3⟩ := rows_in ByteArray.empty (fun s => [Value.string s]) (fun s => s.size) (fun _ => True) Try.underlying25 cells9 (by decide) dec9 g3
    obtain ⟨a4, c4, l4, e4, i4, h4, n4, b4, q4⟩ := rows_in ByteArray.empty (fun s => [Value.string s]) (fun s => s.size) (fun _ => True) Try.underlying25 cells9 (by decide) dec9 g4
    obtain ⟨a5, c5, l5, e5, i5, h5, n5, b5, q5⟩ := rows_in (ByteArray.empty, ByteArray.empty) Q.cells (fun q => q.1.size + q.2.size) (fun _ => True) Try.underlying30 cells98 (by decide) dec98 g5
    obtain ⟨a6, c6, l6, e6, i6, h6, n6, b6, q6⟩ := rows_in (ByteArray.empty, ByteArray.empty) Q.cells (fun q => q.1.size + q.2.size) (fun _ => True) Try.underlying30 cells98 (by decide) dec98 g6
    obtain ⟨a7, c7, l7, e7, i7, h7, n7, b7, q7⟩ := rows_in (ByteArray.empty, ByteArray.empty) Q.cells (fun q => q.1.size + q.2.size) (fun _ => True) Try.underlying30 cells98 (by decide) dec98 g7
    obtain ⟨a8, c8, l8, e8, i8, h8, n8, b8, q8⟩ := rows_in (ByteArray.empty, ByteArray.empty) Q.cells (fun q => q.1.size + q.2.size) (fun _ => True) Try.underlying30 cells98 (by decide) dec98 g8
    obtain ⟨a9, c9, l9, e9, i9, h9, n9, b9, q9⟩ := rows_in U.usharp U.Ru.cells rmu (RuOk W) Try.underlying31 cells27 (by decide) dec27 g9
    obtain ⟨a10, c10, l10, e10, i10, h10, n10, b10, q10⟩ := rows_in (ByteArray.empty, ByteArray.empty, ByteArray.empty) X.cells (fun q => q.1.size + q.2.1.size + q.2.2.size) (fun _ => True) Try.underlying32 cells36 (by decide) dec36 g10
    have hS : Rows.uptoBulk y0.1 + Rows.uptoBulk y1.1 + Rows.uptoBulk y2.1 + Rows.uptoBulk y3.1 + Rows.uptoBulk y4.1 + Rows.uptoBulk y5.1 + Rows.uptoBulk y6.1 + Rows.uptoBulk y7.1 + Rows.uptoBulk y8.1 + Rows.uptoBulk y9.1 + Rows.uptoBulk y10.1 ≤ 1048576 := by
      rw [hxy] at hB
      simp only [List.map_cons, List.map_nil, Rows.uptoBulk, Rows.uptoBulkAll] at hB
      omega
    subst e0 e1 e2 e3 e4 e5 e6 e7 e8 e9 e10
    refine ⟨⟨(a0, c0, l0), (a1, c1, l1), (a2, c2, l2), (a3, c3, l3), (a4, c4, l4), (a5, c5, l5), (a6, c6, l6), (a7, c7, l7), (a8, c8, l8), (a9, c9, l9), (a10, c10, l10)⟩, rfl, ⟨⟨ints_of i0, h0, n0⟩, ⟨subs_of i1, h1, n1⟩, ⟨ints_of i2, h2, n2⟩, ⟨ints_of i3, h3, n3⟩, ⟨ints_of i4, h4, n4⟩, ⟨qints_of i5, h5, n5⟩, ⟨qints_of i6, h6, n6⟩, ⟨qints_of i7, h7, n7⟩, ⟨qints_of i8, h8, n8⟩, ⟨⟨i9, fun R hR => ⟨(q9 R hR).2.1, (q9 R hR).2.2, ?_⟩⟩, h9, n9⟩, ⟨xints_of i10, h10, n10⟩⟩, ⟨?_, ?_, ?_, ?_, ?_, ?_, ?_, ?_, ?_, ?_, ?_⟩, ⟨?_, ?_, ?_, ?_, ?_, ?_, ?_⟩⟩
    · have := (q9 R hR).1; unfold rmu at this; omega
    · show l0.length ≤ _; omega
    · show l1.length ≤ _; omega
    · show l2.length ≤ _; omega
    · show l3.length ≤ _; omega
    · show l4.length ≤ _; omega
    · show l5.length ≤ _; omega
    · show l6.length ≤ _; omega
    · show l7.length ≤ _; omega
    · show l8.length ≤ _; omega
    · show l9.length ≤ _; omega
    · show l10.length ≤ _; omega
    · show l0.length ≤ _; omega
    · show l1.length ≤ _; omega
    · show l3.length ≤ _; omega
    · show l5.length + l6.length ≤ _; omega
    · show l7.length + l8.length ≤ _; omega
    · intro q hq
      rcases List.mem_append.1 hq with z | z
      · have := (q5 q z).1; exact ⟨by omega, by omega⟩
      · have := (q6 q z).1; exact ⟨by omega, by omega⟩
    · intro q hq
      rcases List.mem_append.1 hq with z | z
      · have := (q7 q z).1; exact ⟨by omega, by omega⟩
      · have := (q8 q z).1; exact ⟨by omega, by omega⟩
end Pin
end Go.Proofs.Ythgidcfelijomaa
