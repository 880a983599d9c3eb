import Derived.Test.YthgidcfelijomaaFrame
import Derived.Test.YthgidcfelijomaaMmw
import Derived.Deep.Slices
import Derived.ChangeMaps
set_option linter.unusedVariables false
set_option linter.unusedSimpArgs false
namespace Go.Proofs.Ythgidcfelijomaa
namespace Pin
open Go.ChangeShapes Go.WideShapes Go.ChangeAt Go.RowKit
open Go.ChangeMaps (open_string shut_string)
theorem add_off (b off n : Nat) : (⟨b, off, none⟩ : Addr).add n = ⟨b, off + n, none⟩ := by
  unfold Addr.add
  split <;> simp_all
theorem bulk_pos {H : Type} (d : DataW H) : 1 ≤ Rows.uptoBulk d := by
  cases d with
  | lit l => cases l <;> simp [Rows.uptoBulk]
  | _ => simp [Rows.uptoBulk]
theorem bulk_len {H : Type} : ∀ ds : List (DataW H), ds.length ≤ Rows.uptoBulkAll ds := by
  intro ds
  induction ds with
  | nil => simp [Rows.uptoBulkAll]
  | cons d r ih => simp only [List.length_cons, Rows.uptoBulkAll]; have := bulk_pos d; omega
theorem bulk_mem {H : Type} : ∀ (ds : List (DataW H)) (d : DataW H), d ∈ ds → Rows.uptoBulk d ≤ Rows.uptoBulkAll ds := by
  intro ds
  induction ds with
  | nil => intro d h; cases h
  | cons a r ih =>
    intro d h
    simp only [Rows.uptoBulkAll]
    rcases List.mem_cons.1 h with rfl | h
    · omega
    · have := ih d h; omega
theorem trod_float {H : Type} {enc : TypeId × Value → H} {P : Program} {w : World} {base : Nat} {spare : Nat → Bool} {held : Bool} {fuel : Nat} {t : TypeId} {cs : List Value} {x : DataW H × List MemPlace} {k : FloatKind} (ht : P.underlying t = some (.float k)) (h : DataW.trod enc P w base spare held fuel t cs = some x) : ∃ n, cs = [.float k n] := by
  cases fuel with
  | zero => simp [DataW.trod] at h
  | succ n =>
    unfold DataW.trod at h
    rw [ht] at h
    split at h <;> simp_all
theorem cells9 : Try.prog.cellsOf 9 = 1 := by kernel_rfl
theorem cells24 : Try.prog.cellsOf 24 = 1 := by kernel_rfl
theorem cells23 : Try.prog.cellsOf 23 = 1 := by kernel_rfl
theorem cells4 : Try.prog.cellsOf 4 = 1 := by kernel_rfl
theorem cells25 : Try.prog.cellsOf 25 = 1 := by kernel_rfl
set_option maxRecDepth 100000 in
/-- a slice that came in -/
theorem rows_in {α : Type} (dflt : α) (cl : α → List Value) (mu : α → Nat) (Pr : α → Prop) {t e sz : Nat} (hu : Try.prog.underlying t = some (.slice e)) (hsz : Try.prog.cellsOf e = sz) (h0 : 0 < sz) {H : Type} {enc : TypeId × Value → H} {W : World}
    (dec : ∀ (base : Nat) (spare : Nat → Bool) (held : Bool) (n : Nat) (cs : List Value) (x : DataW H × List MemPlace), cs.length = sz → DataW.trod enc Try.prog W base spare held n e cs = some x → ∃ q, cs = cl q ∧ mu q ≤ Rows.uptoBulk x.1 ∧ Pr q)
    {base : Nat} {spare : Nat → Bool} {held : Bool} {n : Nat} {v : Value} {x : DataW H × List MemPlace} (hf : DataW.trod enc Try.prog W base spare held n t [v] = some x) :
    ∃ (a : Option Addr) (cap : Nat) (l : List α), v = .slice a l.length cap ∧ U.Lies sz a (l.map cl) W ∧ l.length ≤ cap ∧ (a = none → cap = 0) ∧ l.length ≤ Rows.uptoBulk x.1 ∧ ∀ q ∈ l, mu q ≤ Rows.uptoBulk x.1 ∧ Pr q := by
  rcases DataW.trod_slice hu hf with ⟨hcs, _⟩ | ⟨y, len, c, elems, rest, m, _, hcs, hx, hb, hl, hm, hel, hi, _, _⟩
  · simp at hcs
    subst hcs
    exact ⟨none, 0, [], rfl, .inl rfl, Nat.le_refl _, fun _ => rfl, Nat.zero_le _, fun p hp => by cases hp⟩
  · simp at hcs
    subst hcs
    have hd : x.1 = DataW.slice (elems.map (·.1)) (rest.map (·.1)) := by rw [hx]
    have hbk : Rows.uptoBulk x.1 = Rows.uptoBulkAll (elems.map (·.1)) + Rows.uptoBulkAll (rest.map (·.1)) + 1 := by rw [hd]; simp only [Rows.uptoBulk]
    by_cases hz : len = 0
    · subst hz
      exact ⟨some y, c, [], rfl, .inl rfl, Nat.zero_le _, fun q => (by cases q), Nat.zero_le _, fun p hp => by cases hp⟩
    have each : ∀ i, i < len → ∃ q : α, (∀ r u, (cl q)[r]? = some u → W.cell? ((y.add (i * sz)).add r) = some u) ∧ (cl q).length = sz ∧ mu q ≤ Rows.uptoBulkAll (elems.map (·.1)) ∧ Pr q := by
      intro i hi'
      have hh := hi i hi'
      have hie : i < elems.length := by omega
      rw [List.getElem?_eq_getElem hie, Option.bind_eq_some_iff, hsz] at hh
      obtain ⟨cs', h1, h2⟩ := hh
      obtain ⟨_, hlen, hcell⟩ := World.cells?_some h1
      obtain ⟨q, rfl, h4, h5⟩ := dec _ _ _ _ cs' _ hlen h2
      have hm := bulk_mem (elems.map (·.1)) elems[i].1 (List.mem_map_of_mem (List.getElem_mem hie))
      refine ⟨q, fun r u hr => ?_, hlen, Nat.le_trans h4 hm, h5⟩
      have hr' := (List.getElem?_eq_some_iff.1 hr).1
      rw [hlen] at hr'
      have := hcell r hr'
      rw [this]
      simpa using hr
    haveI : Inhabited α := ⟨dflt⟩
    obtain ⟨op, hop⟩ := Go.Deep.choose_lt each
    have hc0 := (hop 0 (by omega)).1 0 ((cl (op 0))[0]'(by rw [(hop 0 (by omega)).2.1]; exact h0)) (List.getElem?_eq_getElem _)
    obtain ⟨b, off, spot⟩ := y
    have hspot : spot = none := by simpa [Addr.add] using World.cell?_spot hc0
    subst hspot
    have hbl : b < W.heap.size := World.block_lt_of_cell? W _ (by simpa [Addr.add] using hc0)
    have hlen := bulk_len (elems.map (·.1))
    rw [List.length_map, hel] at hlen
    refine ⟨some ⟨b, off, none⟩, c, (List.range len).map op, by simp, .inr ⟨b, off, rfl, hbl, fun i r k u hi' hr => ?_⟩, by simpa using hl, fun q => (by cases q), by rw [hbk]; simp; omega, fun q hq => ?_⟩
    · rw [List.getElem?_map, List.getElem?_map] at hi'
      by_cases q : i < len
      · rw [List.getElem?_range q] at hi'
        simp at hi'
        subst hi'
        have := (hop i q).1 r u hr
        rw [add_off, add_off] at this
        exact this
      · rw [List.getElem?_eq_none (by simp; omega)] at hi'; cases hi'
    · obtain ⟨j, hj, rfl⟩ := List.mem_map.1 hq
      have h5 := (hop j (List.mem_range.1 hj)).2.2
      exact ⟨by rw [hbk]; omega, h5.2⟩
theorem ssz (s : ByteArray) : s.data.toList.length = s.size := by rw [Array.length_toList]; rfl
theorem dec9 {H : Type} {enc : TypeId × Value → H} {W : World} (base : Nat) (spare : Nat → Bool) (held : Bool) (n : Nat) (cs : List Value) (x : DataW H × List MemPlace) (hl : cs.length = 1) (h : DataW.trod enc Try.prog W base spare held n 9 cs = some x) : ∃ q : ByteArray, cs = [.string q] ∧ q.size ≤ Rows.uptoBulk x.1 ∧ True := by
  obtain ⟨s, hv, hy, _⟩ := DataW.trod_string Try.underlying9 h
  refine ⟨s, hv, ?_, trivial⟩
  rw [hy]
  simp only [Rows.uptoBulk]
  have := ssz s
  omega
theorem fields98 : ∃ f0 f1 : Field, Try.prog.underlying 98 = some (.struct #[f0, f1]) ∧ (f0.offset = 0 ∧ f1.offset = 1) ∧ (f0.type = 9 ∧ f1.type = 9) := ⟨_, _, Try.underlying98, ⟨rfl, rfl⟩, ⟨rfl, rfl⟩⟩
theorem fields50 : ∃ f0 f1 : Field, Try.prog.underlying 50 = some (.struct #[f0, f1]) ∧ (f0.offset = 0 ∧ f1.offset = 1) ∧ (f0.type = 9 ∧ f1.type = 24) := ⟨_, _, Try.underlying50, ⟨rfl, rfl⟩, ⟨rfl, rfl⟩⟩
theorem fields36 : ∃ f0 f1 f2 : Field, Try.prog.underlying 36 = some (.struct #[f0, f1, f2]) ∧ (f0.offset = 0 ∧ f1.offset = 1 ∧ f2.offset = 2) ∧ (f0.type = 9 ∧ f1.type = 9 ∧ f2.type = 9) := ⟨_, _, _, Try.underlying36, ⟨rfl, rfl, rfl⟩, ⟨rfl, rfl, rfl⟩⟩
theorem fields27 : ∃ f0 f1 f2 f3 f4 f5 : Field, Try.prog.underlying 27 = some (.struct #[f0, f1, f2, f3, f4, f5]) ∧ (f0.offset = 0 ∧ f1.offset = 1 ∧ f2.offset = 2 ∧ f3.offset = 3 ∧ f4.offset = 4 ∧ f5.offset = 5) ∧ (f0.type = 4 ∧ f1.type = 9 ∧ f2.type = 9 ∧ f3.type = 25 ∧ f4.type = 23 ∧ f5.type = 24) := ⟨_, _, _, _, _, _, Try.underlying27, ⟨rfl, rfl, rfl, rfl, rfl, rfl⟩, ⟨rfl, rfl, rfl, rfl, rfl, rfl⟩⟩
theorem cells98 : Try.prog.cellsOf 98 = 2 := by kernel_rfl
theorem cells50 : Try.prog.cellsOf 50 = 2 := by kernel_rfl
theorem cells36 : Try.prog.cellsOf 36 = 3 := by kernel_rfl
theorem cells27 : Try.prog.cellsOf 27 = 6 := by kernel_rfl
set_option maxRecDepth 100000 in
theorem dec98 {H : Type} {enc : TypeId × Value → H} {W : World} (base : Nat) (spare : Nat → Bool) (held : Bool) (n : Nat) (cs : List Value) (x : DataW H × List MemPlace) (hl : cs.length = 2) (h : DataW.trod enc Try.prog W base spare held n 98 cs = some x) : ∃ q : ByteArray × ByteArray, cs = Q.cells q ∧ q.1.size + q.2.size ≤ Rows.uptoBulk x.1 ∧ True := by
  obtain ⟨f0, f1, he, ⟨o0, o1⟩, ⟨t0, t1⟩⟩ := fields98
  obtain ⟨xs, k, hk, hxy, _, hxl, hff⟩ := DataW.trod_struct he h
  match xs, hxl, cs, hl with
  | [y0, y1], _, [v0, v1], _ =>
    have g0 := hff 0 f0 rfl
    have g1 := hff 1 f1 rfl
    simp [o0, o1, t0, t1, cells9] at g0 g1
    obtain ⟨s0, hv0, hy0, _⟩ := DataW.trod_string Try.underlying9 g0
    obtain ⟨s1, hv1, hy1, _⟩ := DataW.trod_string Try.underlying9 g1
    simp at hv0 hv1
    subst hv0 hv1
    refine ⟨(s0, s1), rfl, ?_, trivial⟩
    rw [hxy, hy0, hy1]
    simp only [List.map_cons, List.map_nil, Rows.uptoBulk, Rows.uptoBulkAll]
    have := ssz s0
    have := ssz s1
    omega
set_option maxRecDepth 100000 in
theorem dec50 {H : Type} {enc : TypeId × Value → H} {W : World} (base : Nat) (spare : Nat → Bool) (held : Bool) (n : Nat) (cs : List Value) (x : DataW H × List MemPlace) (hl : cs.length = 2) (h : DataW.trod enc Try.prog W base spare held n 50 cs = some x) : ∃ q : ByteArray × Nat, cs = T.cells q ∧ q.1.size ≤ Rows.uptoBulk x.1 ∧ True := by
  obtain ⟨f0, f1, he, ⟨o0, o1⟩, ⟨t0, t1⟩⟩ := fields50
  obtain ⟨xs, k, hk, hxy, _, hxl, hff⟩ := DataW.trod_struct he h
  match xs, hxl, cs, hl with
  | [y0, y1], _, [v0, v1], _ =>
    have g0 := hff 0 f0 rfl
    have g1 := hff 1 f1 rfl
    simp [o0, o1, t0, t1, cells9, cells24] at g0 g1
    obtain ⟨s0, hv0, hy0, _⟩ := DataW.trod_string Try.underlying9 g0
    obtain ⟨s1, hv1⟩ := trod_float Try.underlying24 g1
    simp at hv0 hv1
    subst hv0 hv1
    refine ⟨(s0, s1), rfl, ?_, trivial⟩
    rw [hxy, hy0]
    simp only [List.map_cons, List.map_nil, Rows.uptoBulk, Rows.uptoBulkAll]
    have := ssz s0
    omega
set_option maxRecDepth 100000 in
theorem dec36 {H : Type} {enc : TypeId × Value → H} {W : World} (base : Nat) (spare : Nat → Bool) (held : Bool) (n : Nat) (cs : List Value) (x : DataW H × List MemPlace) (hl : cs.length = 3) (h : DataW.trod enc Try.prog W base spare held n 36 cs = some x) : ∃ q : X.K3, cs = X.cells q ∧ q.1.size + q.2.1.size + q.2.2.size ≤ Rows.uptoBulk x.1 ∧ True := by
  obtain ⟨f0, f1, f2, he, ⟨o0, o1, o2⟩, ⟨t0, t1, t2⟩⟩ := fields36
  obtain ⟨xs, k, hk, hxy, _, hxl, hff⟩ := DataW.trod_struct he h
  match xs, hxl, cs, hl with
  | [y0, y1, y2], _, [v0, v1, v2], _ =>
    have g0 := hff 0 f0 rfl
    have g1 := hff 1 f1 rfl
    have g2 := hff 2 f2 rfl
    simp [o0, o1, o2, t0, t1, t2, cells9] at g0 g1 g2
    obtain ⟨s0, hv0, hy0, _⟩ := DataW.trod_string Try.underlying9 g0
    obtain ⟨s1, hv1, hy1, _⟩ := DataW.trod_string Try.underlying9 g1
    obtain ⟨s2, hv2, hy2, _⟩ := DataW.trod_string Try.underlying9 g2
    simp at hv0 hv1 hv2
    subst hv0 hv1 hv2
    refine ⟨(s0, s1, s2), rfl, ?_, trivial⟩
    rw [hxy, hy0, hy1, hy2]
    simp only [List.map_cons, List.map_nil, Rows.uptoBulk, Rows.uptoBulkAll]
    have := ssz s0
    have := ssz s1
    have := ssz s2
    omega
theorem ints_of {a : Option Addr} {l : List ByteArray} {W : World} (h : U.Lies 1 a (l.map (fun s => [Value.string s])) W) : S.Ints a l W := by
  rcases h with h | ⟨b, off, e, hl, hc⟩
  · exact .inl (List.map_eq_nil_iff.1 h)
  · refine .inr ⟨b, off, e, hl, fun i k q => ?_⟩
    have := hc i 0 [.string k] (.string k) (by rw [List.getElem?_map, q]; rfl) rfl
    rw [Nat.mul_one, Nat.add_zero] at this
    exact this
theorem qints_of {a : Option Addr} {l : List (ByteArray × ByteArray)} {W : World} (h : U.Lies 2 a (l.map Q.cells) W) : Q.Ints a l W := by
  rcases h with h | ⟨b, off, e, hl, hc⟩
  · exact .inl (List.map_eq_nil_iff.1 h)
  · exact .inr ⟨b, off, e, hl, fun i k q => ⟨hc i 0 (Q.cells k) _ (by rw [List.getElem?_map, q]; rfl) rfl, hc i 1 (Q.cells k) _ (by rw [List.getElem?_map, q]; rfl) rfl⟩⟩
theorem subs_of {a : Option Addr} {l : List (ByteArray × Nat)} {W : World} (h : U.Lies 2 a (l.map T.cells) W) : U.Subs a l W := by
  rcases h with h | ⟨b, off, e, hl, hc⟩
  · exact .inl (List.map_eq_nil_iff.1 h)
  · exact .inr ⟨b, off, e, hl, fun i k q => ⟨hc i 0 (T.cells k) _ (by rw [List.getElem?_map, q]; rfl) rfl, hc i 1 (T.cells k) _ (by rw [List.getElem?_map, q]; rfl) rfl⟩⟩
theorem xints_of {a : Option Addr} {l : List X.K3} {W : World} (h : U.Lies 3 a (l.map X.cells) W) : X.Ints a l W := by
  rcases h with h | ⟨b, off, e, hl, hc⟩
  · exact .inl (List.map_eq_nil_iff.1 h)
  · exact .inr ⟨b, off, e, hl, fun i k q => ⟨hc i 0 (X.cells k) _ (by rw [List.getElem?_map, q]; rfl) rfl, hc i 1 (X.cells k) _ (by rw [List.getElem?_map, q]; rfl) rfl, hc i 2 (X.cells k) _ (by rw [List.getElem?_map, q]; rfl) rfl⟩⟩
/-- what a rule that came in must be -/
def RuOk (W : World) (R : U.Ru) : Prop := U.Ok3 S.Ints (R.ro, R.rc, R.rl) W ∧ ∃ b, R.d = .bool b
def rmu (R : U.Ru) : Nat := R.who.size + R.what.size + R.rl.length
set_option maxRecDepth 100000 in
theorem dec27 {H : Type} {enc : TypeId × Value → H} {W : World} (base : Nat) (spare : Nat → Bool) (held : Bool) (n : Nat) (cs : List Value) (x : DataW H × List MemPlace) (hl : cs.length = 6) (h : DataW.trod enc Try.prog W base spare held n 27 cs = some x) : ∃ R : U.Ru, cs = R.cells ∧ rmu R ≤ Rows.uptoBulk x.1 ∧ RuOk W R := by
  obtain ⟨f0, f1, f2, f3, f4, f5, he, ⟨o0, o1, o2, o3, o4, o5⟩, ⟨t0, t1, t2, t3, t4, t5⟩⟩ := fields27
  obtain ⟨xs, k, hk, hxy, _, hxl, hff⟩ := DataW.trod_struct he h
  match xs, hxl, cs, hl with
  | [y0, y1, y2, y3, y4, y5], _, [v0, v1, v2, v3, v4, v5], _ =>
    have g0 := hff 0 f0 rfl
    have g1 := hff 1 f1 rfl
    have g2 := hff 2 f2 rfl
    have g3 := hff 3 f3 rfl
    have g4 := hff 4 f4 rfl
    have g5 := hff 5 f5 rfl
    simp [o0, o1, o2, o3, o4, o5, t0, t1, t2, t3, t4, t5, cells9, cells24, cells23, cells4, cells25] at g0 g1 g2 g3 g4 g5
    obtain ⟨bv, hv0, _⟩ := DataW.trod_bool Try.underlying4 g0
    obtain ⟨s1, hv1, hy1, _⟩ := DataW.trod_string Try.underlying9 g1
    obtain ⟨s2, hv2, hy2, _⟩ := DataW.trod_string Try.underlying9 g2
    obtain ⟨a, cap, l, hv3, li, hc, hn, hlb, _⟩ := rows_in ByteArray.empty (fun s => [Value.string s]) (fun s => s.size) (fun _ => True) Try.underlying25 cells9 (by decide) dec9 g3
    obtain ⟨cd, hv4, _⟩ := DataW.trod_int Try.underlying23 g4
    obtain ⟨lv, hv5⟩ := trod_float Try.underlying24 g5
    simp at hv0 hv1 hv2 hv4 hv5
    subst hv0 hv1 hv2 hv3 hv4 hv5
    refine ⟨⟨.bool bv, s1, s2, a, cap, l, cd, lv⟩, rfl, ?_, ⟨ints_of li, hc, hn⟩, bv, rfl⟩
    rw [hxy, hy1, hy2]
    simp only [List.map_cons, List.map_nil, Rows.uptoBulk, Rows.uptoBulkAll, rmu]
    have := ssz s1
    have := ssz s2
    omega
end Pin
end Go.Proofs.Ythgidcfelijomaa
