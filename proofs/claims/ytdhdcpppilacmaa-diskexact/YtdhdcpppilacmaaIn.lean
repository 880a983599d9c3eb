import Derived.Test.YtdhdcpppilacmaaOp
import Derived.Lib.SmallJoins
set_option linter.unusedVariables false
set_option linter.unusedSimpArgs false
namespace Go.Proofs.Ytdhdcpppilacmaa
open Go.RowKit
namespace K
open M
/-- a call -/
structure O4 where
  k : Int
  d : Int
  t : List UInt8
  n : Int
def O4.arr (o : O4) : Array Value := #[.int .i64 o.k, .int .i64 o.d, .string (sb o.t), .int .i64 o.n]
/-- a start -/
structure S3 where
  r : Int
  f : Bool
  t : List UInt8
def S3.arr (o : S3) : Array Value := #[.int .i64 o.r, .bool o.f, .string (sb o.t)]
def I64 (z : Int) : Prop := -9223372036854775808 ≤ z ∧ z ≤ 9223372036854775807
theorem cells3 : Try.prog.cellsOf 3 = 1 := by kernel_rfl
theorem cells4 : Try.prog.cellsOf 4 = 1 := by kernel_rfl
theorem cells9 : Try.prog.cellsOf 9 = 1 := by kernel_rfl
theorem cells33 : Try.prog.cellsOf 33 = 3 := by kernel_rfl
theorem cells37 : Try.prog.cellsOf 37 = 4 := by kernel_rfl
theorem bytes33 : Try.prog.bytesOf 33 = 32 := by kernel_rfl
theorem bytes37 : Try.prog.bytesOf 37 = 40 := by kernel_rfl
theorem fields37 : ∃ f0 f1 f2 f3 : Field, Try.prog.underlying 37 = some (.struct #[f0, f1, f2, f3]) ∧ (f0.offset = 0 ∧ f1.offset = 1 ∧ f2.offset = 2 ∧ f3.offset = 3) ∧ (f0.type = 3 ∧ f1.type = 3 ∧ f2.type = 9 ∧ f3.type = 3) := ⟨_, _, _, _, Try.underlying37, ⟨rfl, rfl, rfl, rfl⟩, ⟨rfl, rfl, rfl, rfl⟩⟩
theorem fields33 : ∃ f0 f1 f2 : Field, Try.prog.underlying 33 = some (.struct #[f0, f1, f2]) ∧ (f0.offset = 0 ∧ f1.offset = 1 ∧ f2.offset = 2) ∧ (f0.type = 3 ∧ f1.type = 4 ∧ f2.type = 9) := ⟨_, _, _, Try.underlying33, ⟨rfl, rfl, rfl⟩, ⟨rfl, rfl, rfl⟩⟩
set_option maxRecDepth 100000 in
theorem dec37 {H : Type} {enc : TypeId × Value → H} {W : World} {base : Nat} {spare : Nat → Bool} {held : Bool} (n : Nat) (cs : List Value) (x : DataW H × List MemPlace) (hl : cs.length = 4) (h : DataW.trod enc Try.prog W base spare held n 37 cs = some x) : ∃ q : O4, cs = q.arr.toList ∧ (I64 q.d ∧ I64 q.n) := by
  obtain ⟨f0, f1, f2, f3, he, ⟨o0, o1, o2, o3⟩, ⟨t0, t1, t2, t3⟩⟩ := fields37
  obtain ⟨xs, k, hk, hxy, _, hxl, hff⟩ := DataW.trod_struct he h
  match xs, hxl, cs, hl with
  | [y0, y1, y2, y3], _, [v0, v1, v2, v3], _ =>
    have g0 := hff 0 f0 rfl
    have g1 := hff 1 f1 rfl
    have g2 := hff 2 f2 rfl
    have g3 := hff 3 f3 rfl
    simp [o0, o1, o2, o3, t0, t1, t2, t3, cells3, cells9] at g0 g1 g2 g3
    obtain ⟨n0, hv0, _, w0⟩ := DataW.trod_int Try.underlying3 g0
    obtain ⟨n1, hv1, _, w1⟩ := DataW.trod_int Try.underlying3 g1
    obtain ⟨n2, hv2, _, w2⟩ := DataW.trod_string Try.underlying9 g2
    obtain ⟨n3, hv3, _, w3⟩ := DataW.trod_int Try.underlying3 g3
    simp only [Lit.wf, Bool.and_eq_true, decide_eq_true_eq] at w1 w3
    simp at hv0 hv1 hv2 hv3
    subst hv0 hv1 hv2 hv3
    exact ⟨⟨n0, n1, n2.data.toList, n3⟩, by unfold O4.arr; rw [sb_self], w1, w3⟩
set_option maxRecDepth 100000 in
theorem dec33 {H : Type} {enc : TypeId × Value → H} {W : World} {base : Nat} {spare : Nat → Bool} {held : Bool} (n : Nat) (cs : List Value) (x : DataW H × List MemPlace) (hl : cs.length = 3) (h : DataW.trod enc Try.prog W base spare held n 33 cs = some x) : ∃ q : S3, cs = q.arr.toList ∧ True := by
  obtain ⟨f0, f1, f2, he, ⟨o0, o1, o2⟩, ⟨t0, t1, t2⟩⟩ := fields33
  obtain ⟨xs, k, hk, hxy, _, hxl, hff⟩ := DataW.trod_struct he h
  match xs, hxl, cs, hl with
  | [y0, y1, y2], _, [v0, v1, v2], _ =>
    have g0 := hff 0 f0 rfl
    have g1 := hff 1 f1 rfl
    have g2 := hff 2 f2 rfl
    simp [o0, o1, o2, t0, t1, t2, cells3, cells4, cells9] at g0 g1 g2
    obtain ⟨n0, hv0, _, w0⟩ := DataW.trod_int Try.underlying3 g0
    obtain ⟨n1, hv1, _⟩ := DataW.trod_bool Try.underlying4 g1
    obtain ⟨n2, hv2, _, w2⟩ := DataW.trod_string Try.underlying9 g2
    simp at hv0 hv1 hv2
    subst hv0 hv1 hv2
    exact ⟨⟨n0, n1, n2.data.toList⟩, by unfold S3.arr; rw [sb_self], trivial⟩
end K
end Go.Proofs.Ytdhdcpppilacmaa
