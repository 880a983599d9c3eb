import Derived.Test.YtgjdpgmffhihnaaFrame
import Derived.Test.YtgjdpgmffhihnaaFloW
import Derived.Deep.Slices
set_option linter.unusedVariables false
set_option linter.unusedSimpArgs false
namespace Go.Proofs.Ytgjdpgmffhihnaa
namespace namesFloats
open Go.ChangeShapes Go.WideShapes Go.ChangeAt Go.RowKit
open Go.ChangeMaps (open_string shut_string)

section
variable {H : Type} {enc : TypeId × Value → H} {P : Program} {w : World} {base : Nat} {spare : Nat → Bool} {held : Bool} {fuel : Nat} {t : TypeId} {cs : List Value} {x : DataW H × List MemPlace}
theorem trod_float {k : FloatKind} (ht : P.underlying t = some (.float k)) (h : DataW.trod enc P w base spare held fuel t cs = some x) : ∃ n, cs = [.float k n] := by
  cases fuel with
  | zero => simp [DataW.trod] at h
  | succ m =>
    unfold DataW.trod at h
    rw [ht] at h
    split at h <;> simp_all
end

theorem plainAdd (b off i : Nat) : (⟨b, off, none⟩ : Addr).add i = ⟨b, off + i, none⟩ := by
  unfold Addr.add
  split
  · rename_i h; subst h; rfl
  · rfl

theorem step_of {H : Type} {enc : TypeId × Value → H} {w : World} {base : Nat} {spare : Nat → Bool} {held : Bool} {fuel b off : Nat} {cs : List Value} {x : DataW H × List MemPlace}
    (h : DataW.trod enc Try.prog w base spare held fuel 42 cs = some x) (hc : w.cells? base ⟨b, off, none⟩ 7 = some cs) : ∃ d vs vf k n vm, F.StepAt w b off d vs vf k n vm := by
  obtain ⟨_, hlen, hcell⟩ := World.cells?_some hc
  obtain ⟨xs, k, hk, _, _, hxl, hf⟩ := DataW.trod_struct Try.underlying42 h
  match cs, hlen with
  | [v0, v1, v2, v3, v4, v5, v6], _ =>
    have c3 : Try.prog.cellsOf 3 = 1 := by kernel_rfl
    have c9 : Try.prog.cellsOf 9 = 1 := by kernel_rfl
    have c39 : Try.prog.cellsOf 39 = 1 := by kernel_rfl
    have c40 : Try.prog.cellsOf 40 = 2 := by kernel_rfl
    have hx : ∀ i, i < 6 → ∃ y, xs[i]? = some y := fun i hi => ⟨_, List.getElem?_eq_getElem (by rw [hxl]; exact hi)⟩
    have g0 := hf 0 { name := "Do", type := 3, offset := 0, embedded := false, tag := "", pkgPath := "", byteOffset := 0 } rfl
    have g1 := hf 1 { name := "S", type := 9, offset := 1, embedded := false, tag := "", pkgPath := "", byteOffset := 8 } rfl
    have g2 := hf 2 { name := "F", type := 39, offset := 2, embedded := false, tag := "", pkgPath := "", byteOffset := 24 } rfl
    have g3 := hf 3 { name := "P", type := 40, offset := 3, embedded := false, tag := "", pkgPath := "", byteOffset := 32 } rfl
    have g4 := hf 4 { name := "N", type := 3, offset := 5, embedded := false, tag := "", pkgPath := "", byteOffset := 48 } rfl
    have g5 := hf 5 { name := "M", type := 3, offset := 6, embedded := false, tag := "", pkgPath := "", byteOffset := 56 } rfl
    obtain ⟨y0, e0⟩ := hx 0 (by omega)
    obtain ⟨y1, e1⟩ := hx 1 (by omega)
    obtain ⟨y2, e2⟩ := hx 2 (by omega)
    obtain ⟨y3, e3⟩ := hx 3 (by omega)
    obtain ⟨y4, e4⟩ := hx 4 (by omega)
    obtain ⟨y5, e5⟩ := hx 5 (by omega)
    rw [e0] at g0
    rw [e1] at g1
    rw [e2] at g2
    rw [e3] at g3
    rw [e4] at g4
    rw [e5] at g5
    simp only [c3, c9, c39, c40] at g0 g1 g2 g3 g4 g5
    obtain ⟨n0, q0, _, _⟩ := DataW.trod_int Try.underlying3 g0
    obtain ⟨s1, q1, _, _⟩ := DataW.trod_string Try.underlying9 g1
    obtain ⟨n2, q2⟩ := trod_float Try.underlying39 g2
    obtain ⟨ys, m, _, _, _, hyl, hy⟩ := DataW.trod_array Try.underlying40 g3
    have hy0 := hy 0 (by omega)
    have hy1 := hy 1 (by omega)
    rw [List.getElem?_eq_getElem (by omega : 0 < ys.length), c3] at hy0
    rw [List.getElem?_eq_getElem (by omega : 1 < ys.length), c3] at hy1
    obtain ⟨k1, p1, _, w1⟩ := DataW.trod_int Try.underlying3 hy0
    obtain ⟨k2, p2, _, w2⟩ := DataW.trod_int Try.underlying3 hy1
    obtain ⟨n4, q4, _, wn⟩ := DataW.trod_int Try.underlying3 g4
    obtain ⟨n5, q5, _, _⟩ := DataW.trod_int Try.underlying3 g5
    simp at q0 q1 q2 q4 q5 p1 p2
    subst q0 q1 q2 q4 q5 p1 p2
    refine ⟨n0, s1, n2, (k1, k2), n4, n5, ?_⟩
    have hc : ∀ i u, i < 7 → [Value.int .i64 n0, .string s1, .float .f64 n2, .int .i64 k1, .int .i64 k2, .int .i64 n4, .int .i64 n5][i]? = some u → w.cell? ⟨b, off + i, none⟩ = some u := by
      intro i u hi hu
      have := hcell i hi
      rw [hu, plainAdd] at this
      exact this
    exact ⟨hc 0 _ (by omega) rfl, hc 1 _ (by omega) rfl, hc 2 _ (by omega) rfl, hc 3 _ (by omega) rfl, hc 4 _ (by omega) rfl, hc 5 _ (by omega) rfl, hc 6 _ (by omega) rfl, bounds_i64 wn⟩

/-- what the walk is told of a script that came in -/
def IsScript (w : World) (a : Option Addr) (len cap : Nat) : Prop :=
  (a = none ∧ len = 0 ∧ cap = 0) ∨
  ∃ x : Addr, a = some x ∧ len ≤ cap ∧ cap ≤ maxLen ∧ ∀ i, i < len → x.spot = none ∧ x.block < w.heap.size ∧ ∃ d vs vf k n vm, F.StepAt w x.block (x.off + i * 7) d vs vf k n vm

theorem walk (a0 : Option Addr) (len cap : Nat) (w : World) (h : IsScript w a0 len cap) :
    Calls Try.prog 8 #[.slice a0 len cap] w fun e w' => e = .returned (.bool true) ∧ Below w.heap.size w w' := by
  rcases h with ⟨rfl, rfl, rfl⟩ | ⟨⟨b, off, spot⟩, rfl, hl, hm, hs⟩
  · exact F.walk1 none 0 0 0 0 0 w (Nat.le_refl _) (Nat.zero_le _) rfl (fun h => by omega) (fun h => by omega) (fun i hi => by omega)
  · refine F.walk1 _ b off len cap (min len 1000) w hl hm rfl (fun h => ?_) (fun h => ?_) (fun i hi => (hs i (by omega)).2.2)
    · have := (hs 0 (by omega)).1
      simp only at this
      rw [this]
    · exact (hs 0 (by omega)).2.1

set_option maxRecDepth 100000 in
theorem lifted (os : Os) (started : os.Started) (H : Type) (enc : TypeId × Value → H) :
    ReturnsInHanded {} Try.checked os 8 .any (Rows.namesFloatsSpec.pre6 enc Try.prog Try.f8 Rows.namesFloatsRow.domain false) (Rows.namesFloatsSpec.post enc Try.prog Try.f8 false true false false) := by
  refine returnsInHanded_of_change (C := Try.checked) own started (by kernel_rfl) Try.func8
    (ChangeSpec.witness6 (enc := enc) (C := Try.checked) false ⟨#[], #[.slice none 0 0], []⟩ 8 (by kernel_rfl) (by kernel_rfl) (by kernel_rfl) (by kernel_rfl)) ?_
  intro W base args ds gs before hval0 hW hcnd _
  have hval : ∀ (j : Nat) t v, Try.f8.params[j]? = some t → args[j]? = some v → Value.okWide Try.prog W .any base t v := hval0
  have hW' := hW
  obtain ⟨p, q, hA0, hV, rfl, hfz, hnd⟩ := hW
  have hA : DataW.TrodAll enc Try.prog W 0 (fun _ => true) true Try.f8.params.toList args.toList ds p := hA0
  rw [Try.params8] at hA hval
  obtain ⟨v0, vs0, d0, ds0, p0, q0, hargs, rfl, rfl, h0, r0⟩ := trodAll_cons hA
  obtain ⟨rfl, rfl, rfl⟩ := trodAll_nil r0
  obtain rfl : args = #[v0] := by cases args; simp_all
  obtain ⟨rfl, rfl⟩ := trodVars_none hV
  obtain ⟨a0, len0, cap0, rfl⟩ := okWide_slice Try.underlying27 (hval 0 27 v0 rfl rfl)
  have k0 := h0
  have lt0 : ∀ x ∈ p0, x.block < W.heap.size := by obtain ⟨m, hm⟩ := k0; exact DataW.trod_lt m _ _ _ hm
  have w0 : IsScript W a0 len0 cap0 := by
    obtain ⟨fuel, hf⟩ := h0
    rcases Go.Deep.open_slice Try.underlying27 hf with ⟨hcs, _⟩ | ⟨x, l, c, m, n, D, Pl, hcs, _, hl, hm, hmm, _, hx⟩
    · simp [Value.cells] at hcs
      obtain ⟨rfl, rfl, rfl⟩ := hcs
      exact .inl ⟨rfl, rfl, rfl⟩
    · simp [Value.cells] at hcs
      obtain ⟨rfl, rfl, rfl⟩ := hcs
      refine .inr ⟨x, rfl, hl, hm, fun i hi => ?_⟩
      have hlm : len0 ≤ m := by rw [hmm]; split <;> omega
      have c42 : Try.prog.cellsOf 42 = 7 := by kernel_rfl
      obtain ⟨cs', h1, h2⟩ := hx i (by omega)
      rw [c42] at h1
      obtain ⟨b, off, spot⟩ := x
      obtain ⟨cs0, z1, _⟩ := hx 0 (by omega)
      rw [c42] at z1
      have hc1 := (World.cells?_some z1).2.2 0 (by omega)
      have hl1 := (World.cells?_some z1).2.1
      rw [List.getElem?_eq_getElem (by omega)] at hc1
      have hspot : spot = none := by simpa [Addr.add] using World.cell?_spot hc1
      subst hspot
      refine ⟨rfl, World.block_lt_of_cell? W _ (by simpa [Addr.add] using hc1), ?_⟩
      rw [plainAdd] at h1
      exact step_of h2 h1
  clear hA0 hval0
  refine (walk a0 len0 cap0 W w0).mono fun e W' ⟨he, bel⟩ => ?_
  subst he
  exact ⟨_, rfl, _, _, _, [], _, [], hW', trodAll_mk1 (shut_bool Try.underlying4 _), (trodAll_cons_mk (Below.trod laidOut (by kernel_rfl) (of_decide_eq_true (by kernel_rfl)) k0 bel lt0) trodAll_mk0), rfl, bel.frame _, fun h => by cases h⟩

theorem over : Rows.namesFloatsRow.holds Try.pinned (OpenSpec.ofChange Rows.namesFloatsSpec) :=
  OpenClaim.holds_of_wide 8 Try.f8 rfl rfl rfl rfl rfl rfl rfl ⟨rfl, rfl, rfl, rfl, rfl⟩ rfl rfl rfl rfl rfl (by kernel_rfl) Try.func8 (by kernel_rfl)
    (of_decide_eq_true (by kernel_rfl)) (by unfold Func.isWrapper; first | (rw [if_pos (by decide +kernel)]; kernel_rfl) | (rw [if_neg (by decide +kernel)]; exact ⟨rfl, rfl⟩))
    (fun os started H enc _ => lifted os started H enc)
end namesFloats

theorem namesFloats_holds : Rows.NamesFloatsSaid := namesFloats.over
#print axioms namesFloats_holds
end Go.Proofs.Ytgjdpgmffhihnaa
