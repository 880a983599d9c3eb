import Derived.Test.YtfkoacjfihaajaaBas
import Derived.Test.YtfkoacjfihaajaaFrame
import Derived.Deep.Slices
import Derived.ChangeMaps
import Derived.Deep.CondSized
set_option linter.unusedVariables false
set_option linter.unusedSimpArgs false
namespace Go.Proofs.Ytfkoacjfihaajaa
open Go.RowKit
namespace M
/-- a row of things of m cells each -/
def Rw {α : Type} (m : Nat) (arr : α → Array Value) (w : World) (a : Option Addr) (ss : List α) : Prop := ss = [] ∨ ∃ b off, a = some ⟨b, off, none⟩ ∧ b < w.heap.size ∧ ∀ j x, ss[j]? = some x → ∀ r, r < m → w.cell? ⟨b, off + j * m + r, none⟩ = (arr x)[r]?
theorem Rw.below {α : Type} {m : Nat} {arr : α → Array Value} {w w' : World} {a : Option Addr} {ss : List α} (h : Rw m arr w a ss) (k : Below w.heap.size w w') : Rw m arr w' a ss := by
  rcases h with h | ⟨b, off, h1, h2, h3⟩
  · exact .inl h
  · exact .inr ⟨b, off, h1, Nat.lt_of_lt_of_le h2 k.size, fun j x hx r hr => (World.cell?_of_block (w := w) (k.block b h2)).trans (h3 j x hx r hr)⟩
structure S3 where
  d : Int
  t : Int
  n : Int
def S3.arr (s : S3) : Array Value := #[.int .i64 s.d, .int .i64 s.t, .int .i64 s.n]
def iarr (z : Int) : Array Value := #[.int .i64 z]
def farr (z : Nat) : Array Value := #[.float .f64 z]
end M
namespace Inm
open Go.ChangeShapes Go.WideShapes Go.ChangeAt Go.RowKit M
theorem add_off (b off n : Nat) : (⟨b, off, none⟩ : Addr).add n = ⟨b, off + n, none⟩ := by
  unfold Addr.add
  split <;> simp_all
theorem cells3 : Try.prog.cellsOf 3 = 1 := by kernel_rfl
theorem cells27 : Try.prog.cellsOf 27 = 1 := by kernel_rfl
theorem cells37 : Try.prog.cellsOf 37 = 3 := by kernel_rfl
theorem bytes3 : Try.prog.bytesOf 3 = 8 := by kernel_rfl
theorem bytes27 : Try.prog.bytesOf 27 = 8 := by kernel_rfl
theorem bytes37 : Try.prog.bytesOf 37 = 24 := by kernel_rfl
theorem bulk_pos {H : Type} (d : DataW H) : 1 ≤ Rows.uptoBulk d := by
  cases d with
  | lit l => cases l <;> simp [Rows.uptoBulk]
  | _ => simp [Rows.uptoBulk]
theorem bulk_len {H : Type} : ∀ ds : List (DataW H), ds.length ≤ Rows.uptoBulkAll ds := by
  intro ds
  induction ds with
  | nil => simp
  | cons a r ih => have := bulk_pos a; simp [Rows.uptoBulkAll]; omega
theorem rows_in {α : Type} (q0 : α) {H : Type} {enc : TypeId × Value → H} {W : World} {a : Option Addr} {len cap : Nat} {d : DataW H} {ps : List MemPlace} {base : Nat} {spare : Nat → Bool} {held : Bool}
    {tS tE : TypeId} {m : Nat} (arr : α → Array Value) (P : α → Prop) (hm : 0 < m) (hu : Try.prog.underlying tS = some (.slice tE)) (hc : Try.prog.cellsOf tE = m) (ha : ∀ q, (arr q).size = m)
    (dec : ∀ (n : Nat) (cs : List Value) (x : DataW H × List MemPlace), cs.length = m → DataW.trod enc Try.prog W base spare held n tE cs = some x → ∃ q : α, cs = (arr q).toList ∧ P q)
    (h : DataW.Trod enc Try.prog W base spare held tS (.slice a len cap) d ps) : ∃ ss : List α, ss.length = len ∧ Rw m arr W a ss ∧ (∀ q ∈ ss, P q) ∧ (len = 0 ∨ ∃ el sp, d = .slice el sp ∧ el.length = len) ∧ len ≤ cap ∧ (a = none → cap = 0) := by
  obtain ⟨fuel, hf⟩ := h
  rcases DataW.trod_slice hu hf with ⟨hcs, _⟩ | ⟨y, l, c, elems, rest, n, _, hcs, hx, hb', hl, hmx, hel, hi, _, _⟩
  · simp [Value.cells] at hcs
    obtain ⟨rfl, rfl, rfl⟩ := hcs
    exact ⟨[], rfl, .inl rfl, fun q hq => by simp at hq, .inl rfl, Nat.le_refl _, fun _ => rfl⟩
  · simp [Value.cells] at hcs
    obtain ⟨rfl, rfl, rfl⟩ := hcs
    by_cases hz : len = 0
    · subst hz
      exact ⟨[], rfl, .inl rfl, fun q hq => by simp at hq, .inl rfl, Nat.zero_le _, fun q => by simp at q⟩
    have each : ∀ i, i < len → ∃ q : α, (∀ r, r < m → W.cell? ((y.add (i * m)).add r) = (arr q)[r]?) ∧ P q := by
      intro i hi'
      have hh := hi i hi'
      have hie : i < elems.length := by omega
      rw [List.getElem?_eq_getElem hie, Option.bind_eq_some_iff, hc] at hh
      obtain ⟨cs', h1, h2⟩ := hh
      obtain ⟨_, hlen, hcell⟩ := World.cells?_some h1
      obtain ⟨q, rfl, hP⟩ := dec _ cs' _ hlen h2
      refine ⟨q, fun r hr => ?_, hP⟩
      have := hcell r hr
      rw [this]
      simp
    haveI : Inhabited α := ⟨q0⟩
    obtain ⟨op, hop⟩ := Go.Deep.choose_lt each
    have hc0 := (hop 0 (by omega)).1 0 hm
    rw [Array.getElem?_eq_getElem (by rw [ha]; exact hm)] at hc0
    obtain ⟨b, off, spot⟩ := y
    have hspot : spot = none := by simpa [Addr.add] using World.cell?_spot hc0
    subst hspot
    have hbl : b < W.heap.size := World.block_lt_of_cell? W _ (by simpa [Addr.add] using hc0)
    have e1 : d = .slice (elems.map (·.1)) (rest.map (·.1)) := by simpa using congrArg Prod.fst hx
    refine ⟨(List.range len).map op, by simp, .inr ⟨b, off, rfl, hbl, fun j x hx r hr => ?_⟩, ?_, .inr ⟨_, _, e1, by simp; omega⟩, hl, fun q => by simp at q⟩
    · have hj' : j < len := by
        have := (List.getElem?_eq_some_iff.1 hx).1
        simpa using this
      rw [List.getElem?_map, List.getElem?_range hj'] at hx
      simp only [Option.map_some, Option.some.injEq] at hx
      subst hx
      have := (hop j hj').1 r hr
      rw [add_off, add_off] at this
      exact this
    · intro q hq
      obtain ⟨i, hi1, rfl⟩ := List.mem_map.1 hq
      exact (hop i (by simpa using hi1)).2
theorem dec3 {H : Type} {enc : TypeId × Value → H} {W : World} {base : Nat} {spare : Nat → Bool} {held : Bool} (n : Nat) (cs : List Value) (x : DataW H × List MemPlace) (hl : cs.length = 1) (h : DataW.trod enc Try.prog W base spare held n 3 cs = some x) : ∃ q : Int, cs = (iarr q).toList ∧ (-9223372036854775808 ≤ q ∧ q ≤ 9223372036854775807) := by
  obtain ⟨n0, hv0, _, hw⟩ := DataW.trod_int Try.underlying3 h
  simp only [Lit.wf, Bool.and_eq_true, decide_eq_true_eq] at hw
  exact ⟨n0, hv0, hw⟩
theorem trod_float {P : Program} {H : Type} {enc : TypeId × Value → H} {W : World} {base fuel : Nat} {spare : Nat → Bool} {held : Bool} {t : TypeId} {cs : List Value} {x : DataW H × List MemPlace} {k : FloatKind} (ht : P.underlying t = some (.float k)) (h : DataW.trod enc P W base spare held fuel t cs = some x) : ∃ n, cs = [.float k n] ∧ (Lit.float k n).wf = true := by
  cases fuel with
  | zero => simp [DataW.trod] at h
  | succ n =>
    unfold DataW.trod at h
    rw [ht] at h
    split at h <;> simp_all
theorem dec27 {H : Type} {enc : TypeId × Value → H} {W : World} {base : Nat} {spare : Nat → Bool} {held : Bool} (n : Nat) (cs : List Value) (x : DataW H × List MemPlace) (hl : cs.length = 1) (h : DataW.trod enc Try.prog W base spare held n 27 cs = some x) : ∃ q : Nat, cs = (farr q).toList ∧ q < 18446744073709551616 := by
  obtain ⟨n0, hv0, hw⟩ := trod_float Try.underlying27 h
  simp only [Lit.wf, decide_eq_true_eq] at hw
  exact ⟨n0, hv0, hw⟩
theorem fields37 : ∃ f0 f1 f2 : Field, Try.prog.underlying 37 = some (.struct #[f0, f1, f2]) ∧ (f0.offset = 0 ∧ f1.offset = 1 ∧ f2.offset = 2) ∧ (f0.type = 3 ∧ f1.type = 3 ∧ f2.type = 3) := ⟨_, _, _, Try.underlying37, ⟨rfl, rfl, rfl⟩, ⟨rfl, rfl, rfl⟩⟩
set_option maxRecDepth 100000 in
theorem dec37 {H : Type} {enc : TypeId × Value → H} {W : World} {base : Nat} {spare : Nat → Bool} {held : Bool} (n : Nat) (cs : List Value) (x : DataW H × List MemPlace) (hl : cs.length = 3) (h : DataW.trod enc Try.prog W base spare held n 37 cs = some x) : ∃ q : S3, cs = q.arr.toList ∧ ((-9223372036854775808 ≤ q.t ∧ q.t ≤ 9223372036854775807) ∧ (-9223372036854775808 ≤ q.n ∧ q.n ≤ 9223372036854775807)) := by
  obtain ⟨f0, f1, f2, he, ⟨o0, o1, o2⟩, ⟨t0, t1, t2⟩⟩ := fields37
  obtain ⟨xs, k, hk, hxy, _, hxl, hff⟩ := DataW.trod_struct he h
  match xs, hxl, cs, hl with
  | [y0, y1, y2], _, [v0, v1, v2], _ =>
    have g0 := hff 0 f0 rfl
    have g1 := hff 1 f1 rfl
    have g2 := hff 2 f2 rfl
    simp [o0, o1, o2, t0, t1, t2, cells3] at g0 g1 g2
    obtain ⟨n0, hv0, _, w0⟩ := DataW.trod_int Try.underlying3 g0
    obtain ⟨n1, hv1, _, w1⟩ := DataW.trod_int Try.underlying3 g1
    obtain ⟨n2, hv2, _, w2⟩ := DataW.trod_int Try.underlying3 g2
    simp only [Lit.wf, Bool.and_eq_true, decide_eq_true_eq] at w1 w2
    simp at hv0 hv1 hv2
    subst hv0 hv1 hv2
    exact ⟨⟨n0, n1, n2⟩, rfl, w1, w2⟩
theorem bulk_slice {H : Type} {d : DataW H} {len M : Nat} (hx : len = 0 ∨ ∃ el sp, d = .slice el sp ∧ el.length = len) (hb : Rows.uptoBulk d ≤ M) : len ≤ M := by
  rcases hx with hz | ⟨el, sp, rfl, hel⟩
  · omega
  · simp only [Rows.uptoBulk] at hb
    have := bulk_len el
    omega
end Inm
end Go.Proofs.Ytfkoacjfihaajaa
