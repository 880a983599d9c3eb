import Derived.Test.YtfeehnfpfheojaaFrame
import Derived.Test.YtfeehnfpfheojaaEpW
import Derived.Test.YtfeehnfpfheojaaIns
import Derived.Deep.CondSized
import Derived.ChangeSlices
import Derived.Deep.Slices
import Derived.Deep.Strs
set_option linter.unusedVariables false
set_option linter.unusedSimpArgs false
namespace Go.Proofs.Ytfeehnfpfheojaa
namespace arenaExact
open Go.ChangeShapes Go.WideShapes Go.ChangeAt Go.RowKit Go.Deep
theorem cells3 : Try.prog.cellsOf 3 = 1 := by kernel_rfl
theorem add_off (b off n : Nat) : (⟨b, off, none⟩ : Addr).add n = ⟨b, off + n, none⟩ := by
  unfold Addr.add
  split <;> simp_all
theorem bulk_pos {H : Type} (d : DataW H) : 1 ≤ Rows.uptoBulk d := by
  cases d with
  | lit l => cases l <;> simp [Rows.uptoBulk]
  | _ => simp [Rows.uptoBulk]
theorem bulk_len {H : Type} : ∀ l : List (DataW H), l.length ≤ Rows.uptoBulkAll l := by
  intro l
  induction l with
  | nil => exact Nat.zero_le _
  | cons a r ih => have := bulk_pos a; simp only [Rows.uptoBulkAll, List.length_cons]; omega
theorem bulk_lits {H : Type} (k : IntKind) (zs : List Int) : zs.length ≤ Rows.uptoBulkAll (lits (H := H) k zs) := by
  have := bulk_len (lits (H := H) k zs)
  simpa [lits] using this
/-- a start, as it lies -/
structure S2 where
  e : Int
  f : Int
def S2.arr (s : S2) : Array Value := #[.int .i64 s.e, .int .i64 s.f]
def Ss2 (w : World) (a : Option Addr) (ss : List S2) : Prop := ss = [] ∨ ∃ b off, a = some ⟨b, off, none⟩ ∧ b < w.heap.size ∧ ∀ j (h : j < ss.length), ∀ r (hr : r < 2), w.cell? ⟨b, off + j * 2 + r, none⟩ = ss[j].arr[r]?
theorem fields69 : ∃ f0 f1 : Field, Try.prog.underlying 69 = some (.struct #[f0, f1]) ∧ (f0.offset = 0 ∧ f1.offset = 1) ∧ (f0.type = 3 ∧ f1.type = 3) := ⟨_, _, Try.underlying69, ⟨rfl, rfl⟩, ⟨rfl, rfl⟩⟩
theorem cells69 : Try.prog.cellsOf 69 = 2 := by kernel_rfl
set_option maxRecDepth 100000 in
theorem dec69 {H : Type} {enc : TypeId × Value → H} {W : World} (base : Nat) (spare : Nat → Bool) (held : Bool) (n : Nat) (cs : List Value) (x : DataW H × List MemPlace) (hl : cs.length = 2) (h : DataW.trod enc Try.prog W base spare held n 69 cs = some x) : ∃ q : S2, cs = q.arr.toList := by
  obtain ⟨f0, f1, he, ⟨o0, o1⟩, ⟨t0, t1⟩⟩ := fields69
  obtain ⟨xs, k, hk, hxy, _, hxl, hff⟩ := DataW.trod_struct he h
  match xs, hxl, cs, hl with
  | [y0, y1], _, [v0, v1], _ =>
    have g0 := hff 0 f0 rfl
    have g1 := hff 1 f1 rfl
    simp [o0, o1, t0, t1, cells3] at g0 g1
    obtain ⟨n0, hv0, _, _⟩ := DataW.trod_int Try.underlying3 g0
    obtain ⟨n1, hv1, _, _⟩ := DataW.trod_int Try.underlying3 g1
    simp at hv0 hv1
    subst hv0 hv1
    exact ⟨⟨n0, n1⟩, rfl⟩
set_option maxRecDepth 100000 in
/-- a slice of starts that came in -/
theorem starts_in {H : Type} {enc : TypeId × Value → H} {W : World} {a : Option Addr} {len cap : Nat} {d : DataW H} {ps : List MemPlace} {base M : Nat} {spare : Nat → Bool} {held : Bool}
    (h : DataW.Trod enc Try.prog W base spare held 61 (.slice a len cap) d ps) (hb : Rows.uptoBulk d ≤ M) : ∃ ss : List S2, ss.length = len ∧ Ss2 W a ss ∧ ss.length ≤ M := by
  obtain ⟨fuel, hf⟩ := h
  rcases DataW.trod_slice Try.underlying61 hf with ⟨hcs, _⟩ | ⟨y, l, c, elems, rest, m, _, hcs, hx, hb', hl, hm, hel, hi, _, _⟩
  · simp [Value.cells] at hcs
    obtain ⟨rfl, rfl, rfl⟩ := hcs
    exact ⟨[], rfl, .inl rfl, by simp⟩
  · simp [Value.cells] at hcs
    obtain ⟨rfl, rfl, rfl⟩ := hcs
    by_cases hz : len = 0
    · subst hz
      exact ⟨[], rfl, .inl rfl, by simp⟩
    have each : ∀ i, i < len → ∃ q : S2, (∀ r, r < 2 → W.cell? ((y.add (i * 2)).add r) = q.arr[r]?) := by
      intro i hi'
      have hh := hi i hi'
      have hie : i < elems.length := by omega
      rw [List.getElem?_eq_getElem hie, Option.bind_eq_some_iff, cells69] at hh
      obtain ⟨cs', h1, h2⟩ := hh
      obtain ⟨_, hlen, hcell⟩ := World.cells?_some h1
      obtain ⟨q, rfl⟩ := dec69 _ _ _ _ cs' _ hlen h2
      refine ⟨q, fun r hr => ?_⟩
      have := hcell r hr
      rw [this]
      simp
    haveI : Inhabited S2 := ⟨⟨0, 0⟩⟩
    obtain ⟨op, hop⟩ := choose_lt each
    have hc0 : W.cell? ((y.add (0 * 2)).add 0) = some (.int .i64 (op 0).e) := ((hop 0 (by omega)) 0 (by omega)).trans rfl
    obtain ⟨b, off, spot⟩ := y
    have hspot : spot = none := by simpa [Addr.add] using World.cell?_spot hc0
    subst hspot
    have hbl : b < W.heap.size := World.block_lt_of_cell? W _ (by simpa [Addr.add] using hc0)
    have hlen : len ≤ M := by
      have e1 : d = .slice (elems.map (·.1)) (rest.map (·.1)) := by simpa using congrArg Prod.fst hx
      rw [e1] at hb
      simp only [Rows.uptoBulk] at hb
      have := bulk_len (elems.map (·.1))
      rw [List.length_map] at this
      omega
    refine ⟨(List.range len).map op, by simp, .inr ⟨b, off, rfl, hbl, fun j hj r hr => ?_⟩, by simpa using hlen⟩
    · have hj' : j < len := by simpa using hj
      have := (hop j hj') r hr
      rw [add_off, add_off] at this
      rw [this]
      simp
set_option maxRecDepth 100000 in
theorem contract (H : Type) (enc : TypeId × Value → H) (W : World) (base : Nat) (args : Array Value) (ds gs : List (DataW H)) (before : List MemPlace)
    (hval : ∀ (j : Nat) t v, Try.f5.params[j]? = some t → args[j]? = some v → Value.okWide Try.prog W .any base t v)
    (hW : DataW.Whole enc Try.prog Try.f5.params.toList Rows.arenaExactSpec.vars false W args.toList ds gs before) (hk : Rows.uptoSmall H (ds ++ gs) = true) :
    Calls Try.prog 5 args W fun e W' => ∃ v, e = .returned v ∧ Rows.arenaExactSpec.post enc Try.prog Try.f5 false true false false W args v W' := by
  have hW' := hW
  obtain ⟨p, q, hA0, hV, rfl, hfz, hnd⟩ := hW
  have hA : DataW.TrodAll enc Try.prog W 0 (fun _ => true) true Try.f5.params.toList args.toList ds p := hA0
  rw [Try.params5] at hA hval
  obtain ⟨v0, vs0, d0, ds0, p0, q0, hargs, rfl, rfl, h0, r0⟩ := trodAll_cons hA
  obtain ⟨v1, vs1, d1, ds1, p1, q1, rfl, rfl, rfl, h1, r1⟩ := trodAll_cons r0
  obtain ⟨rfl, rfl, rfl⟩ := trodAll_nil r1
  obtain rfl : args = #[v0, v1] := by cases args; simp_all
  obtain ⟨rfl, rfl⟩ := trodVars_none hV
  simp only [List.append_nil] at hk
  have hb : Rows.uptoBulk d0 + Rows.uptoBulk d1 ≤ 1048576 := by
    have hb : Rows.uptoBulkAll [d0, d1] ≤ 1048576 := of_decide_eq_true hk
    simp only [Rows.uptoBulkAll] at hb
    omega
  have k0 := h0
  have lt0 : ∀ x ∈ p0, x.block < W.heap.size := by obtain ⟨m, hm⟩ := k0; exact DataW.trod_lt m _ _ _ hm
  have k1 := h1
  have lt1 : ∀ x ∈ p1, x.block < W.heap.size := by obtain ⟨m, hm⟩ := k1; exact DataW.trod_lt m _ _ _ hm
  obtain ⟨a0, len0, cap0, rfl⟩ := okWide_slice Try.underlying61 (hval 0 61 v0 rfl rfl)
  obtain ⟨a1, len1, cap1, rfl⟩ := okWide_slice Try.underlying62 (hval 1 62 v1 rfl rfl)
  obtain ⟨ss, rfl, hS, hl0⟩ := starts_in h0 (Nat.le_refl _)
  obtain ⟨os, rfl, hO, hok, hx1⟩ := Ins.ops_in h1
  have hl1 : os.length ≤ Rows.uptoBulk d1 := by
    rcases hx1 with hz | ⟨el, sp, rfl, hel⟩
    · omega
    · have := bulk_len el
      simp only [Rows.uptoBulk]
      omega
  have hH : Ep.Ss W a0 ss.length (fun j => ((ss.getD j ⟨0, 0⟩).e, (ss.getD j ⟨0, 0⟩).f)) := by
    rcases hS with q | ⟨b, off, ha, hb', hc⟩
    · exact .inl (by rw [q]; rfl)
    · refine .inr ⟨b, off, ha, hb', fun j hj => ?_⟩
      have e : ss.getD j ⟨0, 0⟩ = ss[j] := by simp [List.getD, hj]
      dsimp only
      rw [e]
      exact ⟨(hc j hj 0 (by omega)).trans rfl, (hc j hj 1 (by omega)).trans rfl⟩
  clear hA0
  refine (Ep.exact_walk a0 cap0 ss.length _ a1 cap1 os W hH hO hok (by omega)).mono fun e W' ⟨he, bel⟩ => ?_
  subst he
  exact ⟨_, rfl, _, _, _, [], _, [], hW', trodAll_mk1 (shut_bool Try.underlying4 _), (trodAll_cons_mk (Below.trod laidOut (by kernel_rfl) (of_decide_eq_true (by kernel_rfl)) k0 bel lt0) (trodAll_cons_mk (Below.trod laidOut (by kernel_rfl) (of_decide_eq_true (by kernel_rfl)) k1 bel lt1) trodAll_mk0)), rfl, bel.frame _, fun h => by cases h⟩

set_option maxRecDepth 100000 in
theorem lifted (os : Os) (started : os.Started) (H : Type) (enc : TypeId × Value → H) (F : Stop.Interp) :
    ReturnsInHanded {} Try.checked os 5 .any ((Rows.OpenSpec.upto Rows.arenaExactSpec).pre6 enc Try.prog Try.f5 Rows.arenaExactUptoRow.domain false) (((Rows.OpenSpec.upto Rows.arenaExactSpec).at F).post enc Try.prog Try.f5 false true false false) := by
  refine returnsInHanded_of_cond (C := Try.checked) (s := Rows.OpenSpec.upto Rows.arenaExactSpec) (k := Rows.uptoSmall) rfl own started (by kernel_rfl) Try.func5
    (OpenSpec.witness (enc := enc) (C := Try.checked) (s := Rows.OpenSpec.upto Rows.arenaExactSpec) (k := Rows.uptoSmall) rfl false ⟨#[], #[.slice none 0 0, .slice none 0 0], []⟩ 8 (by kernel_rfl) (by kernel_rfl) (by kernel_rfl)
      (x := ([.nil, .nil], [], [])) (by kernel_rfl) rfl (by kernel_rfl)) ?_
  intro W base args ds gs before hval hW _ hk _
  exact contract H enc W base args ds gs before hval hW hk

theorem over : Rows.ArenaExactUptoSaid :=
  OpenClaim.holds_of_cond 5 Try.f5 rfl rfl rfl rfl rfl rfl rfl ⟨rfl, rfl, rfl, rfl, rfl⟩ rfl rfl rfl rfl rfl (by kernel_rfl) Try.func5 (by kernel_rfl)
    (of_decide_eq_true (by kernel_rfl)) (by unfold Func.isWrapper; first | (rw [if_pos (by decide +kernel)]; kernel_rfl) | (rw [if_neg (by decide +kernel)]; exact ⟨rfl, rfl⟩))
    (fun os started H enc _ F => lifted os started H enc F)
end arenaExact

theorem arenaExact_holds : Rows.ArenaExactUptoSaid := arenaExact.over
#print axioms arenaExact_holds
end Go.Proofs.Ytfeehnfpfheojaa
