import Derived.Test.YtollaamlnddhcaaFrame
import Derived.Test.YtollaamlnddhcaaRms
import Derived.Deep.Slices
import Derived.ChangeMaps
import Derived.Test.YtollaamlnddhcaaKL
set_option linter.unusedVariables false
set_option linter.unusedSimpArgs false
namespace Go.Proofs.Ytollaamlnddhcaa
namespace Pin
open Go.ChangeShapes Go.WideShapes Go.ChangeAt Go.RowKit
open Go.ChangeMaps (open_string shut_string)
theorem add_off (b off n : Nat) : (⟨b, off, none⟩ : Addr).add n = ⟨b, off + n, none⟩ := by
  unfold Addr.add
  split <;> simp_all
theorem bulk_pos {H : Type} (d : DataW H) : 1 ≤ Rows.uptoBulk d := by
  cases d with
  | lit l => cases l <;> simp [Rows.uptoBulk]
  | _ => simp [Rows.uptoBulk]
theorem bulk_len {H : Type} : ∀ ds : List (DataW H), ds.length ≤ Rows.uptoBulkAll ds := by
  intro ds
  induction ds with
  | nil => simp [Rows.uptoBulkAll]
  | cons d r ih => simp only [List.length_cons, Rows.uptoBulkAll]; have := bulk_pos d; omega
theorem bulk_mem {H : Type} : ∀ (ds : List (DataW H)) (d : DataW H), d ∈ ds → Rows.uptoBulk d ≤ Rows.uptoBulkAll ds := by
  intro ds
  induction ds with
  | nil => intro d h; cases h
  | cons a r ih =>
    intro d h
    simp only [Rows.uptoBulkAll]
    rcases List.mem_cons.1 h with rfl | h
    · omega
    · have := ih d h; omega
theorem trod_float {H : Type} {enc : TypeId × Value → H} {P : Program} {w : World} {base : Nat} {spare : Nat → Bool} {held : Bool} {fuel : Nat} {t : TypeId} {cs : List Value} {x : DataW H × List MemPlace} {k : FloatKind} (ht : P.underlying t = some (.float k)) (h : DataW.trod enc P w base spare held fuel t cs = some x) : ∃ n, cs = [.float k n] := by
  cases fuel with
  | zero => simp [DataW.trod] at h
  | succ n =>
    unfold DataW.trod at h
    rw [ht] at h
    split at h <;> simp_all
theorem cells9 : Try.prog.cellsOf 9 = 1 := by kernel_rfl
theorem cells24 : Try.prog.cellsOf 63 = 1 := by kernel_rfl
theorem cells23 : Try.prog.cellsOf 62 = 1 := by kernel_rfl
theorem cells4 : Try.prog.cellsOf 4 = 1 := by kernel_rfl
theorem cells25 : Try.prog.cellsOf 22 = 1 := by kernel_rfl
set_option maxRecDepth 100000 in
/-- a slice that came in -/
theorem rows_in {α : Type} (dflt : α) (cl : α → List Value) (mu : α → Nat) (Pr : α → Prop) {t e sz : Nat} (hu : Try.prog.underlying t = some (.slice e)) (hsz : Try.prog.cellsOf e = sz) (h0 : 0 < sz) {H : Type} {enc : TypeId × Value → H} {W : World}
    (dec : ∀ (base : Nat) (spare : Nat → Bool) (held : Bool) (n : Nat) (cs : List Value) (x : DataW H × List MemPlace), cs.length = sz → DataW.trod enc Try.prog W base spare held n e cs = some x → ∃ q, cs = cl q ∧ mu q ≤ Rows.uptoBulk x.1 ∧ Pr q)
    {base : Nat} {spare : Nat → Bool} {held : Bool} {n : Nat} {v : Value} {x : DataW H × List MemPlace} (hf : DataW.trod enc Try.prog W base spare held n t [v] = some x) :
    ∃ (a : Option Addr) (cap : Nat) (l : List α), v = .slice a l.length cap ∧ U.Lies sz a (l.map cl) W ∧ l.length ≤ cap ∧ (a = none → cap = 0) ∧ l.length ≤ Rows.uptoBulk x.1 ∧ ∀ q ∈ l, mu q ≤ Rows.uptoBulk x.1 ∧ Pr q := by
  rcases DataW.trod_slice hu hf with ⟨hcs, _⟩ | ⟨y, len, c, elems, rest, m, _, hcs, hx, hb, hl, hm, hel, hi, _, _⟩
  · simp at hcs
    subst hcs
    exact ⟨none, 0, [], rfl, .inl rfl, Nat.le_refl _, fun _ => rfl, Nat.zero_le _, fun p hp => by cases hp⟩
  · simp at hcs
    subst hcs
    have hd : x.1 = DataW.slice (elems.map (·.1)) (rest.map (·.1)) := by rw [hx]
    have hbk : Rows.uptoBulk x.1 = Rows.uptoBulkAll (elems.map (·.1)) + Rows.uptoBulkAll (rest.map (·.1)) + 1 := by rw [hd]; simp only [Rows.uptoBulk]
    by_cases hz : len = 0
    · subst hz
      exact ⟨some y, c, [], rfl, .inl rfl, Nat.zero_le _, fun q => (by cases q), Nat.zero_le _, fun p hp => by cases hp⟩
    have each : ∀ i, i < len → ∃ q : α, (∀ r u, (cl q)[r]? = some u → W.cell? ((y.add (i * sz)).add r) = some u) ∧ (cl q).length = sz ∧ mu q ≤ Rows.uptoBulkAll (elems.map (·.1)) ∧ Pr q := by
      intro i hi'
      have hh := hi i hi'
      have hie : i < elems.length := by omega
      rw [List.getElem?_eq_getElem hie, Option.bind_eq_some_iff, hsz] at hh
      obtain ⟨cs', h1, h2⟩ := hh
      obtain ⟨_, hlen, hcell⟩ := World.cells?_some h1
      obtain ⟨q, rfl, h4, h5⟩ := dec _ _ _ _ cs' _ hlen h2
      have hm := bulk_mem (elems.map (·.1)) elems[i].1 (List.mem_map_of_mem (List.getElem_mem hie))
      refine ⟨q, fun r u hr => ?_, hlen, Nat.le_trans h4 hm, h5⟩
      have hr' := (List.getElem?_eq_some_iff.1 hr).1
      rw [hlen] at hr'
      have := hcell r hr'
      rw [this]
      simpa using hr
    haveI : Inhabited α := ⟨dflt⟩
    obtain ⟨op, hop⟩ := Go.Deep.choose_lt each
    have hc0 := (hop 0 (by omega)).1 0 ((cl (op 0))[0]'(by rw [(hop 0 (by omega)).2.1]; exact h0)) (List.getElem?_eq_getElem _)
    obtain ⟨b, off, spot⟩ := y
    have hspot : spot = none := by simpa [Addr.add] using World.cell?_spot hc0
    subst hspot
    have hbl : b < W.heap.size := World.block_lt_of_cell? W _ (by simpa [Addr.add] using hc0)
    have hlen := bulk_len (elems.map (·.1))
    rw [List.length_map, hel] at hlen
    refine ⟨some ⟨b, off, none⟩, c, (List.range len).map op, by simp, .inr ⟨b, off, rfl, hbl, fun i r k u hi' hr => ?_⟩, by simpa using hl, fun q => (by cases q), by rw [hbk]; simp; omega, fun q hq => ?_⟩
    · rw [List.getElem?_map, List.getElem?_map] at hi'
      by_cases q : i < len
      · rw [List.getElem?_range q] at hi'
        simp at hi'
        subst hi'
        have := (hop i q).1 r u hr
        rw [add_off, add_off] at this
        exact this
      · rw [List.getElem?_eq_none (by simp; omega)] at hi'; cases hi'
    · obtain ⟨j, hj, rfl⟩ := List.mem_map.1 hq
      have h5 := (hop j (List.mem_range.1 hj)).2.2
      exact ⟨by rw [hbk]; omega, h5.2⟩
theorem ssz (s : ByteArray) : s.data.toList.length = s.size := by rw [Array.length_toList]; rfl
theorem dec9 {H : Type} {enc : TypeId × Value → H} {W : World} (base : Nat) (spare : Nat → Bool) (held : Bool) (n : Nat) (cs : List Value) (x : DataW H × List MemPlace) (hl : cs.length = 1) (h : DataW.trod enc Try.prog W base spare held n 9 cs = some x) : ∃ q : ByteArray, cs = [.string q] ∧ q.size ≤ Rows.uptoBulk x.1 ∧ True := by
  obtain ⟨s, hv, hy, _⟩ := DataW.trod_string Try.underlying9 h
  refine ⟨s, hv, ?_, trivial⟩
  rw [hy]
  simp only [Rows.uptoBulk]
  have := ssz s
  omega
theorem fields98 : ∃ f0 f1 : Field, Try.prog.underlying 83 = some (.struct #[f0, f1]) ∧ (f0.offset = 0 ∧ f1.offset = 1) ∧ (f0.type = 9 ∧ f1.type = 9) := ⟨_, _, Try.underlying83, ⟨rfl, rfl⟩, ⟨rfl, rfl⟩⟩
theorem fields50 : ∃ f0 f1 : Field, Try.prog.underlying 67 = some (.struct #[f0, f1]) ∧ (f0.offset = 0 ∧ f1.offset = 1) ∧ (f0.type = 9 ∧ f1.type = 63) := ⟨_, _, Try.underlying67, ⟨rfl, rfl⟩, ⟨rfl, rfl⟩⟩
theorem fields36 : ∃ f0 f1 f2 : Field, Try.prog.underlying 42 = some (.struct #[f0, f1, f2]) ∧ (f0.offset = 0 ∧ f1.offset = 1 ∧ f2.offset = 2) ∧ (f0.type = 9 ∧ f1.type = 9 ∧ f2.type = 9) := ⟨_, _, _, Try.underlying42, ⟨rfl, rfl, rfl⟩, ⟨rfl, rfl, rfl⟩⟩
theorem fields27 : ∃ f0 f1 f2 f3 f4 f5 : Field, Try.prog.underlying 65 = some (.struct #[f0, f1, f2, f3, f4, f5]) ∧ (f0.offset = 0 ∧ f1.offset = 1 ∧ f2.offset = 2 ∧ f3.offset = 3 ∧ f4.offset = 4 ∧ f5.offset = 5) ∧ (f0.type = 4 ∧ f1.type = 9 ∧ f2.type = 9 ∧ f3.type = 22 ∧ f4.type = 62 ∧ f5.type = 63) := ⟨_, _, _, _, _, _, Try.underlying65, ⟨rfl, rfl, rfl, rfl, rfl, rfl⟩, ⟨rfl, rfl, rfl, rfl, rfl, rfl⟩⟩
theorem cells98 : Try.prog.cellsOf 83 = 2 := by kernel_rfl
theorem cells50 : Try.prog.cellsOf 67 = 2 := by kernel_rfl
theorem cells36 : Try.prog.cellsOf 42 = 3 := by kernel_rfl
theorem cells27 : Try.prog.cellsOf 65 = 6 := by kernel_rfl
set_option maxRecDepth 100000 in
theorem dec98 {H : Type} {enc : TypeId × Value → H} {W : World} (base : Nat) (spare : Nat → Bool) (held : Bool) (n : Nat) (cs : List Value) (x : DataW H × List MemPlace) (hl : cs.length = 2) (h : DataW.trod enc Try.prog W base spare held n 83 cs = some x) : ∃ q : ByteArray × ByteArray, cs = Q.cells q ∧ q.1.size + q.2.size ≤ Rows.uptoBulk x.1 ∧ True := by
  obtain ⟨f0, f1, he, ⟨o0, o1⟩, ⟨t0, t1⟩⟩ := fields98
  obtain ⟨xs, k, hk, hxy, _, hxl, hff⟩ := DataW.trod_struct he h
  match xs, hxl, cs, hl with
  | [y0, y1], _, [v0, v1], _ =>
    have g0 := hff 0 f0 rfl
    have g1 := hff 1 f1 rfl
    simp [o0, o1, t0, t1, cells9] at g0 g1
    obtain ⟨s0, hv0, hy0, _⟩ := DataW.trod_string Try.underlying9 g0
    obtain ⟨s1, hv1, hy1, _⟩ := DataW.trod_string Try.underlying9 g1
    simp at hv0 hv1
    subst hv0 hv1
    refine ⟨(s0, s1), rfl, ?_, trivial⟩
    rw [hxy, hy0, hy1]
    simp only [List.map_cons, List.map_nil, Rows.uptoBulk, Rows.uptoBulkAll]
    have := ssz s0
    have := ssz s1
    omega
set_option maxRecDepth 100000 in
theorem dec50 {H : Type} {enc : TypeId × Value → H} {W : World} (base : Nat) (spare : Nat → Bool) (held : Bool) (n : Nat) (cs : List Value) (x : DataW H × List MemPlace) (hl : cs.length = 2) (h : DataW.trod enc Try.prog W base spare held n 67 cs = some x) : ∃ q : ByteArray × Nat, cs = T.cells q ∧ q.1.size ≤ Rows.uptoBulk x.1 ∧ True := by
  obtain ⟨f0, f1, he, ⟨o0, o1⟩, ⟨t0, t1⟩⟩ := fields50
  obtain ⟨xs, k, hk, hxy, _, hxl, hff⟩ := DataW.trod_struct he h
  match xs, hxl, cs, hl with
  | [y0, y1], _, [v0, v1], _ =>
    have g0 := hff 0 f0 rfl
    have g1 := hff 1 f1 rfl
    simp [o0, o1, t0, t1, cells9, cells24] at g0 g1
    obtain ⟨s0, hv0, hy0, _⟩ := DataW.trod_string Try.underlying9 g0
    obtain ⟨s1, hv1⟩ := trod_float Try.underlying63 g1
    simp at hv0 hv1
    subst hv0 hv1
    refine ⟨(s0, s1), rfl, ?_, trivial⟩
    rw [hxy, hy0]
    simp only [List.map_cons, List.map_nil, Rows.uptoBulk, Rows.uptoBulkAll]
    have := ssz s0
    omega
set_option maxRecDepth 100000 in
theorem dec36 {H : Type} {enc : TypeId × Value → H} {W : World} (base : Nat) (spare : Nat → Bool) (held : Bool) (n : Nat) (cs : List Value) (x : DataW H × List MemPlace) (hl : cs.length = 3) (h : DataW.trod enc Try.prog W base spare held n 42 cs = some x) : ∃ q : X.K3, cs = X.cells q ∧ q.1.size + q.2.1.size + q.2.2.size ≤ Rows.uptoBulk x.1 ∧ True := by
  obtain ⟨f0, f1, f2, he, ⟨o0, o1, o2⟩, ⟨t0, t1, t2⟩⟩ := fields36
  obtain ⟨xs, k, hk, hxy, _, hxl, hff⟩ := DataW.trod_struct he h
  match xs, hxl, cs, hl with
  | [y0, y1, y2], _, [v0, v1, v2], _ =>
    have g0 := hff 0 f0 rfl
    have g1 := hff 1 f1 rfl
    have g2 := hff 2 f2 rfl
    simp [o0, o1, o2, t0, t1, t2, cells9] at g0 g1 g2
    obtain ⟨s0, hv0, hy0, _⟩ := DataW.trod_string Try.underlying9 g0
    obtain ⟨s1, hv1, hy1, _⟩ := DataW.trod_string Try.underlying9 g1
    obtain ⟨s2, hv2, hy2, _⟩ := DataW.trod_string Try.underlying9 g2
    simp at hv0 hv1 hv2
    subst hv0 hv1 hv2
    refine ⟨(s0, s1, s2), rfl, ?_, trivial⟩
    rw [hxy, hy0, hy1, hy2]
    simp only [List.map_cons, List.map_nil, Rows.uptoBulk, Rows.uptoBulkAll]
    have := ssz s0
    have := ssz s1
    have := ssz s2
    omega
theorem ints_of {a : Option Addr} {l : List ByteArray} {W : World} (h : U.Lies 1 a (l.map (fun s => [Value.string s])) W) : S.Ints a l W := by
  rcases h with h | ⟨b, off, e, hl, hc⟩
  · exact .inl (List.map_eq_nil_iff.1 h)
  · refine .inr ⟨b, off, e, hl, fun i k q => ?_⟩
    have := hc i 0 [.string k] (.string k) (by rw [List.getElem?_map, q]; rfl) rfl
    rw [Nat.mul_one, Nat.add_zero] at this
    exact this
theorem qints_of {a : Option Addr} {l : List (ByteArray × ByteArray)} {W : World} (h : U.Lies 2 a (l.map Q.cells) W) : Q.Ints a l W := by
  rcases h with h | ⟨b, off, e, hl, hc⟩
  · exact .inl (List.map_eq_nil_iff.1 h)
  · exact .inr ⟨b, off, e, hl, fun i k q => ⟨hc i 0 (Q.cells k) _ (by rw [List.getElem?_map, q]; rfl) rfl, hc i 1 (Q.cells k) _ (by rw [List.getElem?_map, q]; rfl) rfl⟩⟩
theorem subs_of {a : Option Addr} {l : List (ByteArray × Nat)} {W : World} (h : U.Lies 2 a (l.map T.cells) W) : U.Subs a l W := by
  rcases h with h | ⟨b, off, e, hl, hc⟩
  · exact .inl (List.map_eq_nil_iff.1 h)
  · exact .inr ⟨b, off, e, hl, fun i k q => ⟨hc i 0 (T.cells k) _ (by rw [List.getElem?_map, q]; rfl) rfl, hc i 1 (T.cells k) _ (by rw [List.getElem?_map, q]; rfl) rfl⟩⟩
theorem xints_of {a : Option Addr} {l : List X.K3} {W : World} (h : U.Lies 3 a (l.map X.cells) W) : X.Ints a l W := by
  rcases h with h | ⟨b, off, e, hl, hc⟩
  · exact .inl (List.map_eq_nil_iff.1 h)
  · exact .inr ⟨b, off, e, hl, fun i k q => ⟨hc i 0 (X.cells k) _ (by rw [List.getElem?_map, q]; rfl) rfl, hc i 1 (X.cells k) _ (by rw [List.getElem?_map, q]; rfl) rfl, hc i 2 (X.cells k) _ (by rw [List.getElem?_map, q]; rfl) rfl⟩⟩
/-- what a rule that came in must be -/
def RuOk (W : World) (R : U.Ru) : Prop := U.Ok3 S.Ints (R.ro, R.rc, R.rl) W ∧ ∃ b, R.d = .bool b
def rmu (R : U.Ru) : Nat := R.who.size + R.what.size + R.rl.length
set_option maxRecDepth 100000 in
theorem dec27 {H : Type} {enc : TypeId × Value → H} {W : World} (base : Nat) (spare : Nat → Bool) (held : Bool) (n : Nat) (cs : List Value) (x : DataW H × List MemPlace) (hl : cs.length = 6) (h : DataW.trod enc Try.prog W base spare held n 65 cs = some x) : ∃ R : U.Ru, cs = R.cells ∧ rmu R ≤ Rows.uptoBulk x.1 ∧ RuOk W R := by
  obtain ⟨f0, f1, f2, f3, f4, f5, he, ⟨o0, o1, o2, o3, o4, o5⟩, ⟨t0, t1, t2, t3, t4, t5⟩⟩ := fields27
  obtain ⟨xs, k, hk, hxy, _, hxl, hff⟩ := DataW.trod_struct he h
  match xs, hxl, cs, hl with
  | [y0, y1, y2, y3, y4, y5], _, [v0, v1, v2, v3, v4, v5], _ =>
    have g0 := hff 0 f0 rfl
    have g1 := hff 1 f1 rfl
    have g2 := hff 2 f2 rfl
    have g3 := hff 3 f3 rfl
    have g4 := hff 4 f4 rfl
    have g5 := hff 5 f5 rfl
    simp [o0, o1, o2, o3, o4, o5, t0, t1, t2, t3, t4, t5, cells9, cells24, cells23, cells4, cells25] at g0 g1 g2 g3 g4 g5
    obtain ⟨bv, hv0, _⟩ := DataW.trod_bool Try.underlying4 g0
    obtain ⟨s1, hv1, hy1, _⟩ := DataW.trod_string Try.underlying9 g1
    obtain ⟨s2, hv2, hy2, _⟩ := DataW.trod_string Try.underlying9 g2
    obtain ⟨a, cap, l, hv3, li, hc, hn, hlb, _⟩ := rows_in ByteArray.empty (fun s => [Value.string s]) (fun s => s.size) (fun _ => True) Try.underlying22 cells9 (by decide) dec9 g3
    obtain ⟨cd, hv4, _⟩ := DataW.trod_int Try.underlying62 g4
    obtain ⟨lv, hv5⟩ := trod_float Try.underlying63 g5
    simp at hv0 hv1 hv2 hv4 hv5
    subst hv0 hv1 hv2 hv3 hv4 hv5
    refine ⟨⟨.bool bv, s1, s2, a, cap, l, cd, lv⟩, rfl, ?_, ⟨ints_of li, hc, hn⟩, bv, rfl⟩
    rw [hxy, hy1, hy2]
    simp only [List.map_cons, List.map_nil, Rows.uptoBulk, Rows.uptoBulkAll, rmu]
    have := ssz s1
    have := ssz s2
    omega
end Pin
end Go.Proofs.Ytollaamlnddhcaa
set_option linter.unusedVariables false
set_option linter.unusedSimpArgs false
namespace Go.Proofs.Ytollaamlnddhcaa
namespace Pin
open Go.ChangeShapes Go.WideShapes Go.ChangeAt Go.RowKit
open Go.ChangeMaps (open_string shut_string)
theorem cells29 : Try.prog.cellsOf 23 = 1 := by kernel_rfl
theorem cells30 : Try.prog.cellsOf 24 = 1 := by kernel_rfl
theorem cells31 : Try.prog.cellsOf 25 = 1 := by kernel_rfl
theorem cells32 : Try.prog.cellsOf 26 = 1 := by kernel_rfl
theorem cells34 : Try.prog.cellsOf 28 = 11 := by kernel_rfl
theorem fields34 : ∃ f0 f1 f2 f3 f4 f5 f6 f7 f8 f9 f10 : Field, Try.prog.underlying 28 = some (.struct #[f0, f1, f2, f3, f4, f5, f6, f7, f8, f9, f10]) ∧ (f0.offset = 0 ∧ f1.offset = 1 ∧ f2.offset = 2 ∧ f3.offset = 3 ∧ f4.offset = 4 ∧ f5.offset = 5 ∧ f6.offset = 6 ∧ f7.offset = 7 ∧ f8.offset = 8 ∧ f9.offset = 9 ∧ f10.offset = 10) ∧ (f0.type = 22 ∧ f1.type = 23 ∧ f2.type = 22 ∧ f3.type = 22 ∧ f4.type = 22 ∧ f5.type = 24 ∧ f6.type = 24 ∧ f7.type = 24 ∧ f8.type = 24 ∧ f9.type = 25 ∧ f10.type = 26) := ⟨_, _, _, _, _, _, _, _, _, _, _, Try.underlying28, ⟨rfl, rfl, rfl, rfl, rfl, rfl, rfl, rfl, rfl, rfl, rfl⟩, ⟨rfl, rfl, rfl, rfl, rfl, rfl, rfl, rfl, rfl, rfl, rfl⟩⟩
set_option maxRecDepth 100000 in
set_option maxHeartbeats 2000000 in
/-- a policy that came in -/
theorem pol_in {H : Type} {enc : TypeId × Value → H} {W : World} {base : Nat} {spare : Nat → Bool} {held : Bool} {n : Nat} {cs : List Value} {x : DataW H × List MemPlace} (hl : cs.length = 11) (h : DataW.trod enc Try.prog W base spare held n 28 cs = some x) (hB : Rows.uptoBulk x.1 ≤ 1048576) : ∃ F : U.Pf, cs.toArray = F.arr ∧ F.In W ∧ F.Small ∧ F.po.Small ∧ ∀ R ∈ F.u.2.2, R.who.size ≤ 1048576 ∧ R.what.size ≤ 1048576 := by
  obtain ⟨f0, f1, f2, f3, f4, f5, f6, f7, f8, f9, f10, he, ⟨o0, o1, o2, o3, o4, o5, o6, o7, o8, o9, o10⟩, ⟨t0, t1, t2, t3, t4, t5, t6, t7, t8, t9, t10⟩⟩ := fields34
  obtain ⟨xs, k, hk, hxy, _, hxl, hff⟩ := DataW.trod_struct he h
  match xs, hxl, cs, hl with
  | [y0, y1, y2, y3, y4, y5, y6, y7, y8, y9, y10], _, [v0, v1, v2, v3, v4, v5, v6, v7, v8, v9, v10], _ =>
    have g0 := hff 0 f0 rfl
    have g1 := hff 1 f1 rfl
    have g2 := hff 2 f2 rfl
    have g3 := hff 3 f3 rfl
    have g4 := hff 4 f4 rfl
    have g5 := hff 5 f5 rfl
    have g6 := hff 6 f6 rfl
    have g7 := hff 7 f7 rfl
    have g8 := hff 8 f8 rfl
    have g9 := hff 9 f9 rfl
    have g10 := hff 10 f10 rfl
    simp [o0, o1, o2, o3, o4, o5, o6, o7, o8, o9, o10, t0, t1, t2, t3, t4, t5, t6, t7, t8, t9, t10, cells25, cells29, cells30, cells31, cells32] at g0 g1 g2 g3 g4 g5 g6 g7 g8 g9 g10
    obtain ⟨a0, c0, l0, e0, i0, h0, n0, b0, q0⟩ := rows_in ByteArray.empty (fun s => [Value.string s]) (fun s => s.size) (fun _ => True) Try.underlying22 cells9 (by decide) dec9 g0
    obtain ⟨a1, c1, l1, e1, i1, h1, n1, b1, q1⟩ := rows_in (ByteArray.empty, 0) T.cells (fun q => q.1.size) (fun _ => True) Try.underlying23 cells50 (by decide) dec50 g1
    obtain ⟨a2, c2, l2, e2, i2, h2, n2, b2, q2⟩ := rows_in ByteArray.empty (fun s => [Value.string s]) (fun s => s.size) (fun _ => True) Try.underlying22 cells9 (by decide) dec9 g2
    obtain ⟨a3, c3, l3, e3, i3, h3, n3, b3, q3⟩ := rows_in ByteArray.empty (fun s => [Value.string s]) (fun s => s.size) (fun _ => True) Try.underlying22 cells9 (by decide) dec9 g3
    obtain ⟨a4, c4, l4, e4, i4, h4, n4, b4, q4⟩ := rows_in ByteArray.empty (fun s => [Value.string s]) (fun s => s.size) (fun _ => True) Try.underlying22 cells9 (by decide) dec9 g4
    obtain ⟨a5, c5, l5, e5, i5, h5, n5, b5, q5⟩ := rows_in (ByteArray.empty, ByteArray.empty) Q.cells (fun q => q.1.size + q.2.size) (fun _ => True) Try.underlying24 cells98 (by decide) dec98 g5
    obtain ⟨a6, c6, l6, e6, i6, h6, n6, b6, q6⟩ := rows_in (ByteArray.empty, ByteArray.empty) Q.cells (fun q => q.1.size + q.2.size) (fun _ => True) Try.underlying24 cells98 (by decide) dec98 g6
    obtain ⟨a7, c7, l7, e7, i7, h7, n7, b7, q7⟩ := rows_in (ByteArray.empty, ByteArray.empty) Q.cells (fun q => q.1.size + q.2.size) (fun _ => True) Try.underlying24 cells98 (by decide) dec98 g7
    obtain ⟨a8, c8, l8, e8, i8, h8, n8, b8, q8⟩ := rows_in (ByteArray.empty, ByteArray.empty) Q.cells (fun q => q.1.size + q.2.size) (fun _ => True) Try.underlying24 cells98 (by decide) dec98 g8
    obtain ⟨a9, c9, l9, e9, i9, h9, n9, b9, q9⟩ := rows_in U.usharp U.Ru.cells rmu (RuOk W) Try.underlying25 cells27 (by decide) dec27 g9
    obtain ⟨a10, c10, l10, e10, i10, h10, n10, b10, q10⟩ := rows_in (ByteArray.empty, ByteArray.empty, ByteArray.empty) X.cells (fun q => q.1.size + q.2.1.size + q.2.2.size) (fun _ => True) Try.underlying26 cells36 (by decide) dec36 g10
    have hS : Rows.uptoBulk y0.1 + Rows.uptoBulk y1.1 + Rows.uptoBulk y2.1 + Rows.uptoBulk y3.1 + Rows.uptoBulk y4.1 + Rows.uptoBulk y5.1 + Rows.uptoBulk y6.1 + Rows.uptoBulk y7.1 + Rows.uptoBulk y8.1 + Rows.uptoBulk y9.1 + Rows.uptoBulk y10.1 ≤ 1048576 := by
      rw [hxy] at hB
      simp only [List.map_cons, List.map_nil, Rows.uptoBulk, Rows.uptoBulkAll] at hB
      omega
    subst e0 e1 e2 e3 e4 e5 e6 e7 e8 e9 e10
    refine ⟨⟨(a0, c0, l0), (a1, c1, l1), (a2, c2, l2), (a3, c3, l3), (a4, c4, l4), (a5, c5, l5), (a6, c6, l6), (a7, c7, l7), (a8, c8, l8), (a9, c9, l9), (a10, c10, l10)⟩, rfl, ⟨⟨ints_of i0, h0, n0⟩, ⟨subs_of i1, h1, n1⟩, ⟨ints_of i2, h2, n2⟩, ⟨ints_of i3, h3, n3⟩, ⟨ints_of i4, h4, n4⟩, ⟨qints_of i5, h5, n5⟩, ⟨qints_of i6, h6, n6⟩, ⟨qints_of i7, h7, n7⟩, ⟨qints_of i8, h8, n8⟩, ⟨⟨i9, fun R hR => ⟨(q9 R hR).2.1, (q9 R hR).2.2, ?_⟩⟩, h9, n9⟩, ⟨xints_of i10, h10, n10⟩⟩, ⟨?_, ?_, ?_, ?_, ?_, ?_, ?_, ?_, ?_, ?_, ?_⟩, ⟨?_, ?_, ?_, ?_, ?_, ?_, ?_⟩, fun R hR => by have := (q9 R hR).1; unfold rmu at this; exact ⟨by omega, by omega⟩⟩
    · have := (q9 R hR).1; unfold rmu at this; omega
    · show l0.length ≤ _; omega
    · show l1.length ≤ _; omega
    · show l2.length ≤ _; omega
    · show l3.length ≤ _; omega
    · show l4.length ≤ _; omega
    · show l5.length ≤ _; omega
    · show l6.length ≤ _; omega
    · show l7.length ≤ _; omega
    · show l8.length ≤ _; omega
    · show l9.length ≤ _; omega
    · show l10.length ≤ _; omega
    · show l0.length ≤ _; omega
    · show l1.length ≤ _; omega
    · show l3.length ≤ _; omega
    · show l5.length + l6.length ≤ _; omega
    · show l7.length + l8.length ≤ _; omega
    · intro q hq
      rcases List.mem_append.1 hq with z | z
      · have := (q5 q z).1; exact ⟨by omega, by omega⟩
      · have := (q6 q z).1; exact ⟨by omega, by omega⟩
    · intro q hq
      rcases List.mem_append.1 hq with z | z
      · have := (q7 q z).1; exact ⟨by omega, by omega⟩
      · have := (q8 q z).1; exact ⟨by omega, by omega⟩
end Pin
end Go.Proofs.Ytollaamlnddhcaa
set_option linter.unusedVariables false
set_option linter.unusedSimpArgs false
namespace Go.Proofs.Ytollaamlnddhcaa
namespace Pin
open Go.ChangeShapes Go.WideShapes Go.ChangeAt Go.RowKit
open Go.ChangeMaps (open_string shut_string)
def mx : List ByteArray → Nat
  | [] => 0
  | a :: l => max a.size (mx l)
theorem mx_le {l : List ByteArray} {N : Nat} (h : ∀ a ∈ l, a.size ≤ N) : mx l ≤ N := by
  induction l with
  | nil => exact Nat.zero_le _
  | cons a l ih => exact Nat.max_le.2 ⟨h a (by simp), ih (fun b hb => h b (by simp [hb]))⟩
theorem le_mx {l : List ByteArray} {a : ByteArray} (h : a ∈ l) : a.size ≤ mx l := by
  induction l with
  | nil => cases h
  | cons b l ih =>
    rcases List.mem_cons.1 h with rfl | q
    · exact Nat.le_max_left _ _
    · exact Nat.le_trans (ih q) (Nat.le_max_right _ _)
def rmv (R : U.Ru) : Nat := max (R.who.size + R.what.size + R.rl.length) (mx R.rl)
theorem rmv_le {R : U.Ru} {N : Nat} (h : rmv R ≤ N) : R.who.size ≤ N ∧ R.what.size ≤ N ∧ R.rl.length ≤ N ∧ ∀ a ∈ R.rl, a.size ≤ N := by
  have h2 := Nat.max_le.1 h
  exact ⟨by omega, by omega, by omega, fun a ha => Nat.le_trans (le_mx ha) h2.2⟩
set_option maxRecDepth 100000 in
theorem dec27s {H : Type} {enc : TypeId × Value → H} {W : World} (base : Nat) (spare : Nat → Bool) (held : Bool) (n : Nat) (cs : List Value) (x : DataW H × List MemPlace) (hl : cs.length = 6) (h : DataW.trod enc Try.prog W base spare held n 65 cs = some x) : ∃ R : U.Ru, cs = R.cells ∧ rmv R ≤ Rows.uptoBulk x.1 ∧ RuOk W R := by
  obtain ⟨f0, f1, f2, f3, f4, f5, he, ⟨o0, o1, o2, o3, o4, o5⟩, ⟨t0, t1, t2, t3, t4, t5⟩⟩ := fields27
  obtain ⟨xs, k, hk, hxy, _, hxl, hff⟩ := DataW.trod_struct he h
  match xs, hxl, cs, hl with
  | [y0, y1, y2, y3, y4, y5], _, [v0, v1, v2, v3, v4, v5], _ =>
    have g0 := hff 0 f0 rfl
    have g1 := hff 1 f1 rfl
    have g2 := hff 2 f2 rfl
    have g3 := hff 3 f3 rfl
    have g4 := hff 4 f4 rfl
    have g5 := hff 5 f5 rfl
    simp [o0, o1, o2, o3, o4, o5, t0, t1, t2, t3, t4, t5, cells9, cells24, cells23, cells4, cells25] at g0 g1 g2 g3 g4 g5
    obtain ⟨bv, hv0, _⟩ := DataW.trod_bool Try.underlying4 g0
    obtain ⟨s1, hv1, hy1, _⟩ := DataW.trod_string Try.underlying9 g1
    obtain ⟨s2, hv2, hy2, _⟩ := DataW.trod_string Try.underlying9 g2
    obtain ⟨a, cap, l, hv3, li, hc, hn, hlb, hqs⟩ := rows_in ByteArray.empty (fun s => [Value.string s]) (fun s => s.size) (fun _ => True) Try.underlying22 cells9 (by decide) dec9 g3
    obtain ⟨cd, hv4, _⟩ := DataW.trod_int Try.underlying62 g4
    obtain ⟨lv, hv5⟩ := trod_float Try.underlying63 g5
    simp at hv0 hv1 hv2 hv4 hv5
    subst hv0 hv1 hv2 hv3 hv4 hv5
    refine ⟨⟨.bool bv, s1, s2, a, cap, l, cd, lv⟩, rfl, ?_, ⟨ints_of li, hc, hn⟩, bv, rfl⟩
    rw [hxy, hy1, hy2]
    have hm := mx_le (l := l) (fun q hq => (hqs q hq).1)
    simp only [List.map_cons, List.map_nil, Rows.uptoBulk, Rows.uptoBulkAll, rmv]
    have := ssz s1
    have := ssz s2
    exact Nat.max_le.2 ⟨by omega, by omega⟩
set_option maxRecDepth 100000 in
set_option maxHeartbeats 2000000 in
/-- a policy that came in -/
theorem pol_in2 {H : Type} {enc : TypeId × Value → H} {W : World} {base : Nat} {spare : Nat → Bool} {held : Bool} {n : Nat} {cs : List Value} {x : DataW H × List MemPlace} (hl : cs.length = 11) (h : DataW.trod enc Try.prog W base spare held n 28 cs = some x) (hB : Rows.uptoBulk x.1 ≤ 1048576) : ∃ F : U.Pf, cs.toArray = F.arr ∧ F.In W ∧ F.Small ∧ F.po.Small ∧ (∀ R ∈ F.u.2.2, R.who.size ≤ 1048576 ∧ R.what.size ≤ 1048576 ∧ ∀ a ∈ R.rl, a.size ≤ 1048576) ∧ (∀ t ∈ F.x.2.2, t.1.size ≤ 1048576 ∧ t.2.1.size ≤ 1048576 ∧ t.2.2.size ≤ 1048576) ∧ ∀ a ∈ F.a.2.2, a.size ≤ 1048576 := by
  obtain ⟨f0, f1, f2, f3, f4, f5, f6, f7, f8, f9, f10, he, ⟨o0, o1, o2, o3, o4, o5, o6, o7, o8, o9, o10⟩, ⟨t0, t1, t2, t3, t4, t5, t6, t7, t8, t9, t10⟩⟩ := fields34
  obtain ⟨xs, k, hk, hxy, _, hxl, hff⟩ := DataW.trod_struct he h
  match xs, hxl, cs, hl with
  | [y0, y1, y2, y3, y4, y5, y6, y7, y8, y9, y10], _, [v0, v1, v2, v3, v4, v5, v6, v7, v8, v9, v10], _ =>
    have g0 := hff 0 f0 rfl
    have g1 := hff 1 f1 rfl
    have g2 := hff 2 f2 rfl
    have g3 := hff 3 f3 rfl
    have g4 := hff 4 f4 rfl
    have g5 := hff 5 f5 rfl
    have g6 := hff 6 f6 rfl
    have g7 := hff 7 f7 rfl
    have g8 := hff 8 f8 rfl
    have g9 := hff 9 f9 rfl
    have g10 := hff 10 f10 rfl
    simp [o0, o1, o2, o3, o4, o5, o6, o7, o8, o9, o10, t0, t1, t2, t3, t4, t5, t6, t7, t8, t9, t10, cells25, cells29, cells30, cells31, cells32] at g0 g1 g2 g3 g4 g5 g6 g7 g8 g9 g10
    obtain ⟨a0, c0, l0, e0, i0, h0, n0, b0, q0⟩ := rows_in ByteArray.empty (fun s => [Value.string s]) (fun s => s.size) (fun _ => True) Try.underlying22 cells9 (by decide) dec9 g0
    obtain ⟨a1, c1, l1, e1, i1, h1, n1, b1, q1⟩ := rows_in (ByteArray.empty, 0) T.cells (fun q => q.1.size) (fun _ => True) Try.underlying23 cells50 (by decide) dec50 g1
    obtain ⟨a2, c2, l2, e2, i2, h2, n2, b2, q2⟩ := rows_in ByteArray.empty (fun s => [Value.string s]) (fun s => s.size) (fun _ => True) Try.underlying22 cells9 (by decide) dec9 g2
    obtain ⟨a3, c3, l3, e3, i3, h3, n3, b3, q3⟩ := rows_in ByteArray.empty (fun s => [Value.string s]) (fun s => s.size) (fun _ => True) Try.underlying22 cells9 (by decide) dec9 g3
    obtain ⟨a4, c4, l4, e4, i4, h4, n4, b4, q4⟩ := rows_in ByteArray.empty (fun s => [Value.string s]) (fun s => s.size) (fun _ => True) Try.underlying22 cells9 (by decide) dec9 g4
    obtain ⟨a5, c5, l5, e5, i5, h5, n5, b5, q5⟩ := rows_in (ByteArray.empty, ByteArray.empty) Q.cells (fun q => q.1.size + q.2.size) (fun _ => True) Try.underlying24 cells98 (by decide) dec98 g5
    obtain ⟨a6, c6, l6, e6, i6, h6, n6, b6, q6⟩ := rows_in (ByteArray.empty, ByteArray.empty) Q.cells (fun q => q.1.size + q.2.size) (fun _ => True) Try.underlying24 cells98 (by decide) dec98 g6
    obtain ⟨a7, c7, l7, e7, i7, h7, n7, b7, q7⟩ := rows_in (ByteArray.empty, ByteArray.empty) Q.cells (fun q => q.1.size + q.2.size) (fun _ => True) Try.underlying24 cells98 (by decide) dec98 g7
    obtain ⟨a8, c8, l8, e8, i8, h8, n8, b8, q8⟩ := rows_in (ByteArray.empty, ByteArray.empty) Q.cells (fun q => q.1.size + q.2.size) (fun _ => True) Try.underlying24 cells98 (by decide) dec98 g8
    obtain ⟨a9, c9, l9, e9, i9, h9, n9, b9, q9⟩ := rows_in U.usharp U.Ru.cells rmv (RuOk W) Try.underlying25 cells27 (by decide) dec27s g9
    obtain ⟨a10, c10, l10, e10, i10, h10, n10, b10, q10⟩ := rows_in (ByteArray.empty, ByteArray.empty, ByteArray.empty) X.cells (fun q => q.1.size + q.2.1.size + q.2.2.size) (fun _ => True) Try.underlying26 cells36 (by decide) dec36 g10
    have hS : Rows.uptoBulk y0.1 + Rows.uptoBulk y1.1 + Rows.uptoBulk y2.1 + Rows.uptoBulk y3.1 + Rows.uptoBulk y4.1 + Rows.uptoBulk y5.1 + Rows.uptoBulk y6.1 + Rows.uptoBulk y7.1 + Rows.uptoBulk y8.1 + Rows.uptoBulk y9.1 + Rows.uptoBulk y10.1 ≤ 1048576 := by
      rw [hxy] at hB
      simp only [List.map_cons, List.map_nil, Rows.uptoBulk, Rows.uptoBulkAll] at hB
      omega
    subst e0 e1 e2 e3 e4 e5 e6 e7 e8 e9 e10
    refine ⟨⟨(a0, c0, l0), (a1, c1, l1), (a2, c2, l2), (a3, c3, l3), (a4, c4, l4), (a5, c5, l5), (a6, c6, l6), (a7, c7, l7), (a8, c8, l8), (a9, c9, l9), (a10, c10, l10)⟩, rfl, ⟨⟨ints_of i0, h0, n0⟩, ⟨subs_of i1, h1, n1⟩, ⟨ints_of i2, h2, n2⟩, ⟨ints_of i3, h3, n3⟩, ⟨ints_of i4, h4, n4⟩, ⟨qints_of i5, h5, n5⟩, ⟨qints_of i6, h6, n6⟩, ⟨qints_of i7, h7, n7⟩, ⟨qints_of i8, h8, n8⟩, ⟨⟨i9, fun R hR => ⟨(q9 R hR).2.1, (q9 R hR).2.2, ?_⟩⟩, h9, n9⟩, ⟨xints_of i10, h10, n10⟩⟩, ⟨?_, ?_, ?_, ?_, ?_, ?_, ?_, ?_, ?_, ?_, ?_⟩, ⟨?_, ?_, ?_, ?_, ?_, ?_, ?_⟩, fun R hR => ?_, fun t ht => ?_, fun a ha => ?_⟩
    · have := (rmv_le (q9 R hR).1).2.2.1; omega
    · show l0.length ≤ _; omega
    · show l1.length ≤ _; omega
    · show l2.length ≤ _; omega
    · show l3.length ≤ _; omega
    · show l4.length ≤ _; omega
    · show l5.length ≤ _; omega
    · show l6.length ≤ _; omega
    · show l7.length ≤ _; omega
    · show l8.length ≤ _; omega
    · show l9.length ≤ _; omega
    · show l10.length ≤ _; omega
    · show l0.length ≤ _; omega
    · show l1.length ≤ _; omega
    · show l3.length ≤ _; omega
    · show l5.length + l6.length ≤ _; omega
    · show l7.length + l8.length ≤ _; omega
    · intro q hq
      rcases List.mem_append.1 hq with z | z
      · have := (q5 q z).1; exact ⟨by omega, by omega⟩
      · have := (q6 q z).1; exact ⟨by omega, by omega⟩
    · intro q hq
      rcases List.mem_append.1 hq with z | z
      · have := (q7 q z).1; exact ⟨by omega, by omega⟩
      · have := (q8 q z).1; exact ⟨by omega, by omega⟩
    · have q := rmv_le (q9 R hR).1; exact ⟨by omega, by omega, fun a ha => by have := q.2.2.2 a ha; omega⟩
    · have := (q10 t ht).1; exact ⟨by omega, by omega, by omega⟩
    · have := (q0 a ha).1; omega
end Pin
end Go.Proofs.Ytollaamlnddhcaa
set_option linter.unusedVariables false
set_option linter.unusedSimpArgs false
namespace Go.Proofs.Ytollaamlnddhcaa
namespace Pin
open Go.ChangeShapes Go.WideShapes Go.ChangeAt Go.RowKit
open Go.ChangeMaps (open_string shut_string)
theorem bulk_mul {H : Type} (c : Nat) : ∀ ds : List (DataW H), (∀ d ∈ ds, c ≤ Rows.uptoBulk d) → c * ds.length ≤ Rows.uptoBulkAll ds := by
  intro ds
  induction ds with
  | nil => intro _; simp
  | cons d r ih =>
    intro h
    have h1 := h d (by simp)
    have h2 := ih (fun e he => h e (by simp [he]))
    simp only [List.length_cons, Rows.uptoBulkAll, Nat.mul_add, Nat.mul_one]
    omega
theorem big_agg {H : Type} {enc : TypeId × Value → H} {W : World} {fs : Array Field} {t : Nat} (hu : Try.prog.underlying t = some (.struct fs)) (hp : 0 < fs.size) (base : Nat) (spare : Nat → Bool) (held : Bool) (n : Nat) (cs : List Value) (x : DataW H × List MemPlace) (h : DataW.trod enc Try.prog W base spare held n t cs = some x) : 2 ≤ Rows.uptoBulk x.1 := by
  obtain ⟨xs, k, hk, hxy, _, hxl, hff⟩ := DataW.trod_struct hu h
  rw [hxy]
  simp only [Rows.uptoBulk]
  have := bulk_len (xs.map (·.1))
  rw [List.length_map] at this
  omega
theorem big98 {H : Type} {enc : TypeId × Value → H} {W : World} (base : Nat) (spare : Nat → Bool) (held : Bool) (n : Nat) (cs : List Value) (x : DataW H × List MemPlace) (h : DataW.trod enc Try.prog W base spare held n 83 cs = some x) : 2 ≤ Rows.uptoBulk x.1 := big_agg Try.underlying83 (by decide) base spare held n cs x h
theorem big36 {H : Type} {enc : TypeId × Value → H} {W : World} (base : Nat) (spare : Nat → Bool) (held : Bool) (n : Nat) (cs : List Value) (x : DataW H × List MemPlace) (h : DataW.trod enc Try.prog W base spare held n 42 cs = some x) : 2 ≤ Rows.uptoBulk x.1 := big_agg Try.underlying42 (by decide) base spare held n cs x h
theorem big27 {H : Type} {enc : TypeId × Value → H} {W : World} (base : Nat) (spare : Nat → Bool) (held : Bool) (n : Nat) (cs : List Value) (x : DataW H × List MemPlace) (h : DataW.trod enc Try.prog W base spare held n 65 cs = some x) : 2 ≤ Rows.uptoBulk x.1 := big_agg Try.underlying65 (by decide) base spare held n cs x h
set_option maxRecDepth 100000 in
/-- a slice that came in -/
theorem rows_in2 {α : Type} (dflt : α) (cl : α → List Value) (mu : α → Nat) (Pr : α → Prop) {t e sz cm : Nat} (hu : Try.prog.underlying t = some (.slice e)) (hsz : Try.prog.cellsOf e = sz) (h0 : 0 < sz) {H : Type} {enc : TypeId × Value → H} {W : World}
    (dec : ∀ (base : Nat) (spare : Nat → Bool) (held : Bool) (n : Nat) (cs : List Value) (x : DataW H × List MemPlace), cs.length = sz → DataW.trod enc Try.prog W base spare held n e cs = some x → ∃ q, cs = cl q ∧ mu q ≤ Rows.uptoBulk x.1 ∧ Pr q) (hcm : ∀ (base : Nat) (spare : Nat → Bool) (held : Bool) (n : Nat) (cs : List Value) (x : DataW H × List MemPlace), DataW.trod enc Try.prog W base spare held n e cs = some x → cm ≤ Rows.uptoBulk x.1)
    {base : Nat} {spare : Nat → Bool} {held : Bool} {n : Nat} {v : Value} {x : DataW H × List MemPlace} (hf : DataW.trod enc Try.prog W base spare held n t [v] = some x) :
    ∃ (a : Option Addr) (cap : Nat) (l : List α), v = .slice a l.length cap ∧ U.Lies sz a (l.map cl) W ∧ l.length ≤ cap ∧ (a = none → cap = 0) ∧ cm * l.length ≤ Rows.uptoBulk x.1 ∧ ∀ q ∈ l, mu q ≤ Rows.uptoBulk x.1 ∧ Pr q := by
  rcases DataW.trod_slice hu hf with ⟨hcs, _⟩ | ⟨y, len, c, elems, rest, m, _, hcs, hx, hb, hl, hm, hel, hi, _, _⟩
  · simp at hcs
    subst hcs
    exact ⟨none, 0, [], rfl, .inl rfl, Nat.le_refl _, fun _ => rfl, by simp, fun p hp => by cases hp⟩
  · simp at hcs
    subst hcs
    have hd : x.1 = DataW.slice (elems.map (·.1)) (rest.map (·.1)) := by rw [hx]
    have hbk : Rows.uptoBulk x.1 = Rows.uptoBulkAll (elems.map (·.1)) + Rows.uptoBulkAll (rest.map (·.1)) + 1 := by rw [hd]; simp only [Rows.uptoBulk]
    by_cases hz : len = 0
    · subst hz
      exact ⟨some y, c, [], rfl, .inl rfl, Nat.zero_le _, fun q => (by cases q), by simp, fun p hp => by cases hp⟩
    have each : ∀ i, i < len → ∃ q : α, (∀ r u, (cl q)[r]? = some u → W.cell? ((y.add (i * sz)).add r) = some u) ∧ (cl q).length = sz ∧ mu q ≤ Rows.uptoBulkAll (elems.map (·.1)) ∧ Pr q := by
      intro i hi'
      have hh := hi i hi'
      have hie : i < elems.length := by omega
      rw [List.getElem?_eq_getElem hie, Option.bind_eq_some_iff, hsz] at hh
      obtain ⟨cs', h1, h2⟩ := hh
      obtain ⟨_, hlen, hcell⟩ := World.cells?_some h1
      obtain ⟨q, rfl, h4, h5⟩ := dec _ _ _ _ cs' _ hlen h2
      have hm := bulk_mem (elems.map (·.1)) elems[i].1 (List.mem_map_of_mem (List.getElem_mem hie))
      refine ⟨q, fun r u hr => ?_, hlen, Nat.le_trans h4 hm, h5⟩
      have hr' := (List.getElem?_eq_some_iff.1 hr).1
      rw [hlen] at hr'
      have := hcell r hr'
      rw [this]
      simpa using hr
    haveI : Inhabited α := ⟨dflt⟩
    obtain ⟨op, hop⟩ := Go.Deep.choose_lt each
    have hc0 := (hop 0 (by omega)).1 0 ((cl (op 0))[0]'(by rw [(hop 0 (by omega)).2.1]; exact h0)) (List.getElem?_eq_getElem _)
    obtain ⟨b, off, spot⟩ := y
    have hspot : spot = none := by simpa [Addr.add] using World.cell?_spot hc0
    subst hspot
    have hbl : b < W.heap.size := World.block_lt_of_cell? W _ (by simpa [Addr.add] using hc0)
    have hlen := bulk_mul cm (elems.map (·.1)) (fun d hd => by
      obtain ⟨e0, he0, rfl⟩ := List.mem_map.1 hd
      obtain ⟨i, hie, hie2⟩ := List.mem_iff_getElem.1 he0
      have hh := hi i (by omega)
      rw [List.getElem?_eq_getElem hie, Option.bind_eq_some_iff, hie2] at hh
      obtain ⟨cs', _, h2⟩ := hh
      exact hcm _ _ _ _ cs' _ h2)
    rw [List.length_map, hel] at hlen
    refine ⟨some ⟨b, off, none⟩, c, (List.range len).map op, by simp, .inr ⟨b, off, rfl, hbl, fun i r k u hi' hr => ?_⟩, by simpa using hl, fun q => (by cases q), by rw [hbk]; simp; omega, fun q hq => ?_⟩
    · rw [List.getElem?_map, List.getElem?_map] at hi'
      by_cases q : i < len
      · rw [List.getElem?_range q] at hi'
        simp at hi'
        subst hi'
        have := (hop i q).1 r u hr
        rw [add_off, add_off] at this
        exact this
      · rw [List.getElem?_eq_none (by simp; omega)] at hi'; cases hi'
    · obtain ⟨j, hj, rfl⟩ := List.mem_map.1 hq
      have h5 := (hop j (List.mem_range.1 hj)).2.2
      exact ⟨by rw [hbk]; omega, h5.2⟩
set_option maxRecDepth 100000 in
set_option maxHeartbeats 2000000 in
/-- a policy that came in -/
theorem pol_in3 {H : Type} {enc : TypeId × Value → H} {W : World} {base : Nat} {spare : Nat → Bool} {held : Bool} {n : Nat} {cs : List Value} {x : DataW H × List MemPlace} (hl : cs.length = 11) (h : DataW.trod enc Try.prog W base spare held n 28 cs = some x) (hB : Rows.uptoBulk x.1 ≤ 1048576) : ∃ F : U.Pf, cs.toArray = F.arr ∧ F.In W ∧ U.Fine F (Rows.uptoBulk x.1) ∧ 2 * (F.m.2.2.length + F.i.2.2.length) ≤ Rows.uptoBulk x.1 ∧ 2 * (F.p.2.2.length + F.w.2.2.length) ≤ Rows.uptoBulk x.1 ∧ 2 * F.u.2.2.length ≤ Rows.uptoBulk x.1 ∧ 2 * F.x.2.2.length ≤ Rows.uptoBulk x.1 ∧ ∀ R ∈ F.u.2.2, R.rl.length ≤ Rows.uptoBulk x.1 := by
  obtain ⟨f0, f1, f2, f3, f4, f5, f6, f7, f8, f9, f10, he, ⟨o0, o1, o2, o3, o4, o5, o6, o7, o8, o9, o10⟩, ⟨t0, t1, t2, t3, t4, t5, t6, t7, t8, t9, t10⟩⟩ := fields34
  obtain ⟨xs, k, hk, hxy, _, hxl, hff⟩ := DataW.trod_struct he h
  match xs, hxl, cs, hl with
  | [y0, y1, y2, y3, y4, y5, y6, y7, y8, y9, y10], _, [v0, v1, v2, v3, v4, v5, v6, v7, v8, v9, v10], _ =>
    have g0 := hff 0 f0 rfl
    have g1 := hff 1 f1 rfl
    have g2 := hff 2 f2 rfl
    have g3 := hff 3 f3 rfl
    have g4 := hff 4 f4 rfl
    have g5 := hff 5 f5 rfl
    have g6 := hff 6 f6 rfl
    have g7 := hff 7 f7 rfl
    have g8 := hff 8 f8 rfl
    have g9 := hff 9 f9 rfl
    have g10 := hff 10 f10 rfl
    simp [o0, o1, o2, o3, o4, o5, o6, o7, o8, o9, o10, t0, t1, t2, t3, t4, t5, t6, t7, t8, t9, t10, cells25, cells29, cells30, cells31, cells32] at g0 g1 g2 g3 g4 g5 g6 g7 g8 g9 g10
    obtain ⟨a0, c0, l0, e0, i0, h0, n0, b0, q0⟩ := rows_in ByteArray.empty (fun s => [Value.string s]) (fun s => s.size) (fun _ => True) Try.underlying22 cells9 (by decide) dec9 g0
    obtain ⟨a1, c1, l1, e1, i1, h1, n1, b1, q1⟩ := rows_in (ByteArray.empty, 0) T.cells (fun q => q.1.size) (fun _ => True) Try.underlying23 cells50 (by decide) dec50 g1
    obtain ⟨a2, c2, l2, e2, i2, h2, n2, b2, q2⟩ := rows_in ByteArray.empty (fun s => [Value.string s]) (fun s => s.size) (fun _ => True) Try.underlying22 cells9 (by decide) dec9 g2
    obtain ⟨a3, c3, l3, e3, i3, h3, n3, b3, q3⟩ := rows_in ByteArray.empty (fun s => [Value.string s]) (fun s => s.size) (fun _ => True) Try.underlying22 cells9 (by decide) dec9 g3
    obtain ⟨a4, c4, l4, e4, i4, h4, n4, b4, q4⟩ := rows_in ByteArray.empty (fun s => [Value.string s]) (fun s => s.size) (fun _ => True) Try.underlying22 cells9 (by decide) dec9 g4
    obtain ⟨a5, c5, l5, e5, i5, h5, n5, b5, q5⟩ := rows_in2 (cm := 2) (ByteArray.empty, ByteArray.empty) Q.cells (fun q => q.1.size + q.2.size) (fun _ => True) Try.underlying24 cells98 (by decide) dec98 big98 g5
    obtain ⟨a6, c6, l6, e6, i6, h6, n6, b6, q6⟩ := rows_in2 (cm := 2) (ByteArray.empty, ByteArray.empty) Q.cells (fun q => q.1.size + q.2.size) (fun _ => True) Try.underlying24 cells98 (by decide) dec98 big98 g6
    obtain ⟨a7, c7, l7, e7, i7, h7, n7, b7, q7⟩ := rows_in2 (cm := 2) (ByteArray.empty, ByteArray.empty) Q.cells (fun q => q.1.size + q.2.size) (fun _ => True) Try.underlying24 cells98 (by decide) dec98 big98 g7
    obtain ⟨a8, c8, l8, e8, i8, h8, n8, b8, q8⟩ := rows_in2 (cm := 2) (ByteArray.empty, ByteArray.empty) Q.cells (fun q => q.1.size + q.2.size) (fun _ => True) Try.underlying24 cells98 (by decide) dec98 big98 g8
    obtain ⟨a9, c9, l9, e9, i9, h9, n9, b9, q9⟩ := rows_in2 (cm := 2) U.usharp U.Ru.cells rmv (RuOk W) Try.underlying25 cells27 (by decide) dec27s big27 g9
    obtain ⟨a10, c10, l10, e10, i10, h10, n10, b10, q10⟩ := rows_in2 (cm := 2) (ByteArray.empty, ByteArray.empty, ByteArray.empty) X.cells (fun q => q.1.size + q.2.1.size + q.2.2.size) (fun _ => True) Try.underlying26 cells36 (by decide) dec36 big36 g10
    have hS : Rows.uptoBulk y0.1 + Rows.uptoBulk y1.1 + Rows.uptoBulk y2.1 + Rows.uptoBulk y3.1 + Rows.uptoBulk y4.1 + Rows.uptoBulk y5.1 + Rows.uptoBulk y6.1 + Rows.uptoBulk y7.1 + Rows.uptoBulk y8.1 + Rows.uptoBulk y9.1 + Rows.uptoBulk y10.1 ≤ Rows.uptoBulk x.1 := by
      rw [hxy]
      simp only [List.map_cons, List.map_nil, Rows.uptoBulk, Rows.uptoBulkAll]
      omega
    generalize Rows.uptoBulk x.1 = B at *
    subst e0 e1 e2 e3 e4 e5 e6 e7 e8 e9 e10
    refine ⟨⟨(a0, c0, l0), (a1, c1, l1), (a2, c2, l2), (a3, c3, l3), (a4, c4, l4), (a5, c5, l5), (a6, c6, l6), (a7, c7, l7), (a8, c8, l8), (a9, c9, l9), (a10, c10, l10)⟩, rfl, ⟨⟨ints_of i0, h0, n0⟩, ⟨subs_of i1, h1, n1⟩, ⟨ints_of i2, h2, n2⟩, ⟨ints_of i3, h3, n3⟩, ⟨ints_of i4, h4, n4⟩, ⟨qints_of i5, h5, n5⟩, ⟨qints_of i6, h6, n6⟩, ⟨qints_of i7, h7, n7⟩, ⟨qints_of i8, h8, n8⟩, ⟨⟨i9, fun R hR => ⟨(q9 R hR).2.1, (q9 R hR).2.2, ?_⟩⟩, h9, n9⟩, ⟨xints_of i10, h10, n10⟩⟩, ⟨hB, ?_, ?_, ?_, ?_, ?_, ?_, ?_, ?_, ?_, fun a ha => ?_, fun s hs => ?_, fun o ho => ?_, fun q hq => ?_, fun q hq => ?_, fun R hR => ?_, fun t ht => ?_⟩, ?_, ?_, ?_, ?_, fun R hR => ?_⟩
    · have := (rmv_le (q9 R hR).1).2.2.1; omega
    · show l0.length ≤ _; omega
    · show l1.length ≤ _; omega
    · show l2.length ≤ _; omega
    · show l3.length ≤ _; omega
    · show l4.length ≤ _; omega
    · show l5.length + l6.length ≤ _; omega
    · show l7.length + l8.length ≤ _; omega
    · show l9.length ≤ _; omega
    · show l10.length ≤ _; omega
    · have := (q0 a ha).1; omega
    · have := (q1 s hs).1; omega
    · have := (q3 o ho).1; omega
    · rcases List.mem_append.1 hq with h | h
      · have := (q5 q h).1; exact ⟨by omega, by omega⟩
      · have := (q6 q h).1; exact ⟨by omega, by omega⟩
    · rcases List.mem_append.1 hq with h | h
      · have := (q7 q h).1; exact ⟨by omega, by omega⟩
      · have := (q8 q h).1; exact ⟨by omega, by omega⟩
    · obtain ⟨r1, r2, _, r4⟩ := rmv_le (q9 R hR).1
      exact ⟨by omega, by omega, fun a ha => by have := r4 a ha; omega⟩
    · have := (q10 t ht).1; exact ⟨by omega, by omega, by omega⟩
    · show 2 * (l5.length + l6.length) ≤ _; omega
    · show 2 * (l7.length + l8.length) ≤ _; omega
    · show 2 * l9.length ≤ _; omega
    · show 2 * l10.length ≤ _; omega
    · have := (rmv_le (q9 R hR).1).2.2.1; omega
set_option maxRecDepth 100000 in
/-- a triple that came in -/
theorem tri_in {H : Type} {enc : TypeId × Value → H} {W : World} {base : Nat} {spare : Nat → Bool} {held : Bool} {n : Nat} {cs : List Value} {x : DataW H × List MemPlace} (hl : cs.length = 3) (h : DataW.trod enc Try.prog W base spare held n 42 cs = some x) : ∃ q : X.K3, cs = X.cells q ∧ q.1.size + q.2.1.size + q.2.2.size < Rows.uptoBulk x.1 := by
  obtain ⟨f0, f1, f2, he, ⟨o0, o1, o2⟩, ⟨t0, t1, t2⟩⟩ := fields36
  obtain ⟨xs, k, hk, hxy, _, hxl, hff⟩ := DataW.trod_struct he h
  match xs, hxl, cs, hl with
  | [y0, y1, y2], _, [v0, v1, v2], _ =>
    have g0 := hff 0 f0 rfl
    have g1 := hff 1 f1 rfl
    have g2 := hff 2 f2 rfl
    simp [o0, o1, o2, t0, t1, t2, cells9] at g0 g1 g2
    obtain ⟨s0, hv0, hy0, _⟩ := DataW.trod_string Try.underlying9 g0
    obtain ⟨s1, hv1, hy1, _⟩ := DataW.trod_string Try.underlying9 g1
    obtain ⟨s2, hv2, hy2, _⟩ := DataW.trod_string Try.underlying9 g2
    simp at hv0 hv1 hv2
    subst hv0 hv1 hv2
    refine ⟨(s0, s1, s2), rfl, ?_⟩
    rw [hxy, hy0, hy1, hy2]
    simp only [List.map_cons, List.map_nil, Rows.uptoBulk, Rows.uptoBulkAll]
    have := ssz s0
    have := ssz s1
    have := ssz s2
    omega
end Pin
end Go.Proofs.Ytollaamlnddhcaa
