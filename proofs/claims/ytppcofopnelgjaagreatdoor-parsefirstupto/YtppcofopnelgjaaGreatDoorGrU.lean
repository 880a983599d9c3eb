import Derived.Test.YtppcofopnelgjaaGreatDoorRows
import Derived.Test.YtppcofopnelgjaaGreatDoorGrK
import Derived.ProofKit
import Derived.OpenShut
import Derived.ChangeOld
import Derived.Deep.Slices
import Derived.Test.YtppcofopnelgjaaGreatDoorGrD
import Derived.Lib.LaidU8
import Derived.FnData
import Derived.KernelRfl
set_option linter.unusedVariables false
set_option linter.unusedSimpArgs false
namespace Go.Proofs.YtppcofopnelgjaaGreatDoor
open Go.ChangeShapes Go.WideShapes Go.ChangeAt Go.RowKit
namespace TkI
theorem bulk_pos {H : Type} (d : DataW H) : 1 ≤ Rows.uptoBulk d := by
  cases d with
  | lit x => cases x <;> simp [Rows.uptoBulk]
  | _ => simp [Rows.uptoBulk]
theorem bulk_len {H : Type} : ∀ ds : List (DataW H), ds.length ≤ Rows.uptoBulkAll ds := by
  intro ds
  induction ds with
  | nil => simp [Rows.uptoBulkAll]
  | cons d r ih => have := bulk_pos d; simp [Rows.uptoBulkAll]; omega
theorem bulk_mem {H : Type} : ∀ (ds : List (DataW H)) (d : DataW H), d ∈ ds → Rows.uptoBulk d ≤ Rows.uptoBulkAll ds := by
  intro ds
  induction ds with
  | nil => intro d h; cases h
  | cons d r ih =>
    intro x hx
    simp only [Rows.uptoBulkAll]
    rcases List.mem_cons.1 hx with rfl | hx
    · omega
    · have := ih x hx; omega
theorem fields44 : ∃ f0 f1 f2 f3 : Field, Tryz.prog.underlying 44 = some (.struct #[f0, f1, f2, f3]) ∧ (f0.offset = 0 ∧ f1.offset = 1 ∧ f2.offset = 2 ∧ f3.offset = 3) ∧ (f0.type = 42 ∧ f1.type = 9 ∧ f2.type = 3 ∧ f3.type = 3) := ⟨_, _, _, _, Tryz.underlying44, ⟨rfl, rfl, rfl, rfl⟩, ⟨rfl, rfl, rfl, rfl⟩⟩
theorem add_off (b off n : Nat) : (⟨b, off, none⟩ : Addr).add n = ⟨b, off + n, none⟩ := by
  unfold Addr.add
  split <;> simp_all
theorem cells44 : Tryz.prog.cellsOf 44 = 4 := by kernel_rfl
theorem cells42 : Tryz.prog.cellsOf 42 = 1 := by kernel_rfl
theorem cells9 : Tryz.prog.cellsOf 9 = 1 := by kernel_rfl
theorem cells3 : Tryz.prog.cellsOf 3 = 1 := by kernel_rfl
set_option maxRecDepth 100000 in
theorem toks_in {H : Type} {enc : TypeId × Value → H} {W : World} {a : Option Addr} {len cap : Nat} {d : DataW H} {ps : List MemPlace} {base : Nat} {spare : Nat → Bool} {held : Bool}
    (h : DataW.Trod enc Tryz.prog W base spare held 40 (.slice a len cap) d ps) :
    ∃ l : List R.Tok, l.length = len ∧ len ≤ cap ∧ (a = none → len = 0 ∧ cap = 0) ∧ Toks l a (fun _ => False) W ∧ len ≤ Rows.uptoBulk d ∧ ∀ t ∈ l, t.2.1.size ≤ Rows.uptoBulk d := by
  obtain ⟨f0, f1, f2, f3, he, ⟨o0, o1, o2, o3⟩, ⟨t0, t1, t2, t3⟩⟩ := fields44
  obtain ⟨fuel, hf⟩ := h
  rcases DataW.trod_slice Tryz.underlying40 hf with ⟨hcs, _⟩ | ⟨x, l, c, elems, rest, n, _, hcs, hx, hb, hl, hm, hel, hi, _, _⟩
  · simp [Value.cells] at hcs
    obtain ⟨rfl, rfl, rfl⟩ := hcs
    exact ⟨[], rfl, Nat.le_refl _, fun _ => ⟨rfl, rfl⟩, (fun j t hj => by simp at hj), Nat.zero_le _, (fun t ht => by cases ht)⟩
  · simp [Value.cells] at hcs
    obtain ⟨rfl, rfl, rfl⟩ := hcs
    simp only [Prod.mk.injEq] at hx
    have hd := hx.1
    subst hd
    by_cases h0 : len = 0
    · subst h0
      exact ⟨[], rfl, hl, (fun q => by cases q), (fun j t hj => by simp at hj), Nat.zero_le _, (fun t ht => by cases ht)⟩
    have each : ∀ i, i < len → ∃ q : R.Tok, (W.cell? (x.add (i * 4)) = some (.int .i8 q.1) ∧ W.cell? ((x.add (i * 4)).add 1) = some (.string q.2.1) ∧ W.cell? ((x.add (i * 4)).add 2) = some (.int .i64 q.2.2.1) ∧ W.cell? ((x.add (i * 4)).add 3) = some (.int .i64 q.2.2.2)) ∧ q.2.1.size ≤ Rows.uptoBulkAll (elems.map (·.1)) := by
      intro i hi'
      have hh := hi i hi'
      have hie : i < elems.length := by omega
      rw [List.getElem?_eq_getElem hie, Option.bind_eq_some_iff, cells44] at hh
      obtain ⟨cs', h1, h2⟩ := hh
      obtain ⟨_, hlen, hcell⟩ := World.cells?_some h1
      obtain ⟨xs, k, hk, hxy, _, hxl, hff⟩ := DataW.trod_struct he h2
      match xs, hxl, cs', hlen with
      | [y0, y1, y2, y3], _, [v0, v1, v2, v3], _ =>
        have g0 := hff 0 f0 rfl
        have g1 := hff 1 f1 rfl
        have g2 := hff 2 f2 rfl
        have g3 := hff 3 f3 rfl
        simp [o0, o1, o2, o3, t0, t1, t2, t3, cells3, cells42, cells9] at g0 g1 g2 g3
        obtain ⟨n0, hv0, _, _⟩ := DataW.trod_int Tryz.underlying42 g0
        obtain ⟨s1, hv1, hy1, _⟩ := DataW.trod_string Tryz.underlying9 g1
        obtain ⟨n2, hv2, _, _⟩ := DataW.trod_int Tryz.underlying3 g2
        obtain ⟨n3, hv3, _, _⟩ := DataW.trod_int Tryz.underlying3 g3
        simp at hv0 hv1 hv2 hv3
        subst hv0 hv1 hv2 hv3
        have e0 := hcell 0 (by omega)
        have e1 := hcell 1 (by omega)
        have e2 := hcell 2 (by omega)
        have e3 := hcell 3 (by omega)
        have hm := bulk_mem (elems.map (·.1)) elems[i].1 (List.mem_map_of_mem (List.getElem_mem hie))
        have hb1 : s1.size ≤ Rows.uptoBulk elems[i].1 := by
          rw [hxy, hy1]
          simp only [List.map_cons, List.map_nil, Rows.uptoBulk, Rows.uptoBulkAll]
          have e : s1.data.toList.length = s1.size := by rw [Array.length_toList]; rfl
          omega
        refine ⟨(n0, s1, n2, n3), ⟨by simpa [Addr.add] using e0, by simpa using e1, by simpa using e2, by simpa using e3⟩, Nat.le_trans hb1 hm⟩
    obtain ⟨op, hop⟩ := Go.Deep.choose_lt each
    have hc0 := (hop 0 (by omega)).1.1
    obtain ⟨b, off, spot⟩ := x
    have hspot : spot = none := by simpa [Addr.add] using World.cell?_spot hc0
    subst hspot
    have hbl : b < W.heap.size := World.block_lt_of_cell? W _ (by simpa [Addr.add] using hc0)
    have hlen := bulk_len (elems.map (·.1))
    rw [List.length_map, hel] at hlen
    have hb : Rows.uptoBulk (DataW.slice (elems.map (·.1)) (rest.map (·.1))) = Rows.uptoBulkAll (elems.map (·.1)) + Rows.uptoBulkAll (rest.map (·.1)) + 1 := by simp only [Rows.uptoBulk]
    refine ⟨(List.range len).map op, by simp, hl, (fun q => by cases q), fun j t hj => ?_, by rw [hb]; omega, fun t ht => ?_⟩
    · have hj' : j < len ∧ op j = t := by
        rw [List.getElem?_map] at hj
        by_cases q : j < len
        · rw [List.getElem?_range q] at hj; exact ⟨q, Option.some.inj hj⟩
        · rw [List.getElem?_eq_none (by simp; omega)] at hj; cases hj
      obtain ⟨q, rfl⟩ := hj'
      obtain ⟨⟨c0, c1, c2, c3⟩, _⟩ := hop j q
      rw [add_off] at c0 c1 c2 c3
      rw [add_off] at c1 c2 c3
      exact ⟨b, off, rfl, fun q => q, hbl, c0, c1, c2, c3⟩
    · obtain ⟨j, hj, rfl⟩ := List.mem_map.1 ht
      have := (hop j (List.mem_range.1 hj)).2
      rw [hb]; omega
end TkI
end Go.Proofs.YtppcofopnelgjaaGreatDoor
set_option linter.unusedVariables false
set_option linter.unusedSimpArgs false
namespace Go.Proofs.YtppcofopnelgjaaGreatDoor
open Go.RowKit
theorem trod_float {H : Type} {enc : TypeId × Value → H} {P : Program} {w : World} {base : Nat} {spare : Nat → Bool} {held : Bool} {fuel : Nat} {t : TypeId} {cs : List Value} {x : DataW H × List MemPlace} {k : FloatKind}
    (ht : P.underlying t = some (.float k)) (h : DataW.trod enc P w base spare held fuel t cs = some x) : ∃ b, cs = [.float k b] ∧ x = (.lit (.float k b), []) := by
  cases fuel with
  | zero => simp [DataW.trod] at h
  | succ n =>
    unfold DataW.trod at h
    rw [ht] at h
    split at h <;> simp_all
theorem g4 : Tryz.prog.globalNamed "internal/strconv.optimize" = some 4 := by kernel_rfl
theorem g5 : Tryz.prog.globalNamed "internal/strconv.float64info" = some 5 := by kernel_rfl
theorem g8 : Tryz.prog.globalNamed "internal/strconv.float64pow10" = some 8 := by kernel_rfl
theorem gt4 : (Tryz.prog.globals[4]?).map (·.type) = some 4 := by kernel_rfl
theorem gt5 : (Tryz.prog.globals[5]?).map (·.type) = some 245 := by kernel_rfl
theorem gt8 : (Tryz.prog.globals[8]?).map (·.type) = some 284 := by kernel_rfl
theorem cells57 : Tryz.prog.cellsOf 57 = 1 := by kernel_rfl
theorem cells237 : Tryz.prog.cellsOf 237 = 1 := by kernel_rfl
theorem fields245 : ∃ (fs : Array Field) (f0 : Field), Tryz.prog.underlying 245 = some (.struct fs) ∧ fs[0]? = some f0 ∧ f0.offset = 0 ∧ f0.type = 237 := ⟨_, _, Tryz.underlying245, rfl, rfl, rfl⟩
theorem opt_met {w : World} (h : Lib.VarReads Tryz.prog w "internal/strconv.optimize" (.lit (.bool true))) : w.cell? ⟨4, 0, none⟩ = some (.bool true) := by
  obtain ⟨g, t, cs, fuel, p, h1, h2, h3, h4⟩ := h
  rw [g4] at h1
  cases h1
  rw [gt4] at h2
  cases h2
  obtain ⟨b, e1, e2⟩ := DataW.trod_bool Tryz.underlying4 h4
  cases e2
  have := World.var?_cell g4 h3 0
  rw [this]
  have : cs[0]? = cs.toList[0]? := by simp
  rw [this, e1]; rfl
theorem inf_met {w : World} {r : List (DataW Unit)} (h : Lib.VarReads Tryz.prog w "internal/strconv.float64info" (.agg (.lit (.int .u64 52) :: r))) : w.cell? ⟨5, 0, none⟩ = some (.int .u64 52) := by
  obtain ⟨g, t, cs, fuel, p, h1, h2, h3, h4⟩ := h
  rw [g5] at h1
  cases h1
  rw [gt5] at h2
  cases h2
  obtain ⟨fs, f0, hu, hf0, ho, hty⟩ := fields245
  obtain ⟨xs, n, _, hx, _, hxl, hall⟩ := DataW.trod_struct hu h4
  have h0 := hall 0 f0 hf0
  rw [ho, hty, cells237] at h0
  match xs, hx with
  | [], hx => simp at hx
  | x0 :: xs', hx =>
    simp only [List.getElem?_cons_zero] at h0
    obtain ⟨z, e1, e2, _⟩ := DataW.trod_int Tryz.underlying237 h0
    subst e2
    have e3 : z = 52 := by
      have := congrArg Prod.fst hx
      simp at this
      exact this.1.symm
    subst e3
    have := World.var?_cell g5 h3 0
    rw [this]
    have e4 : cs[0]? = cs.toList[0]? := by simp
    rw [e4]
    match hc : cs.toList, e1 with
    | [], e1 => simp at e1
    | c :: r', e1 => simp at e1; simp [e1]
theorem pow_met {w : World} {ds rs : List (DataW Unit)} (h : Lib.VarReads Tryz.prog w "internal/strconv.float64pow10" (.slice ds rs)) (hl : ds.length = 23) (hd : ∀ k, k < 10 → ds[k]? = some (.lit (.float .f64 (FloatKind.f64.nearest (10 ^ k : Nat))))) :
    ∃ pb po cap, pb < w.heap.size ∧ w.cell? ⟨8, 0, none⟩ = some (.slice (some ⟨pb, po, none⟩) 23 cap) ∧ ∀ k, k < 10 → w.cell? ⟨pb, po + k, none⟩ = some (.float .f64 (FloatKind.f64.nearest (10 ^ k : Nat))) := by
  obtain ⟨g, t, cs, fuel, p, h1, h2, h3, h4⟩ := h
  rw [g8] at h1
  cases h1
  rw [gt8] at h2
  cases h2
  rcases DataW.trod_slice Tryz.underlying284 h4 with ⟨_, hx⟩ | ⟨a, len, cap, elems, rest, n, _, hcs, hx, hb, hlc, hm, hel, hi, _, _⟩
  · have := congrArg Prod.fst hx
    simp at this
  · have hds : ds = elems.map (·.1) := by
      have := congrArg Prod.fst hx
      simp at this
      exact this.1
    have hlen : len = 23 := by rw [← hel, ← hl, hds, List.length_map]
    subst hlen
    have each : ∀ k, k < 10 → w.cell? (a.add k) = some (.float .f64 (FloatKind.f64.nearest (10 ^ k : Nat))) := by
      intro k hk
      have hh := hi k (by omega)
      rw [List.getElem?_eq_getElem (by omega), Option.bind_eq_some_iff, cells57] at hh
      obtain ⟨cs', q1, q2⟩ := hh
      obtain ⟨_, hlen', hcell⟩ := World.cells?_some q1
      obtain ⟨bb, e1, e2⟩ := trod_float Tryz.underlying57 q2
      have e3 := hd k hk
      rw [hds, List.getElem?_map, List.getElem?_eq_getElem (by omega : k < elems.length), e2] at e3
      simp at e3
      subst e3
      subst e1
      have := hcell 0 (by simp)
      rw [Nat.mul_one] at this
      have z : (a.add k).add 0 = a.add k := by
        generalize a.add k = q
        unfold Addr.add; simp
      rw [z] at this
      simpa using this
    have hc0 := each 0 (by omega)
    obtain ⟨b, off, spot⟩ := a
    have hspot : spot = none := by simpa [Addr.add] using World.cell?_spot hc0
    subst hspot
    have hbl : b < w.heap.size := World.block_lt_of_cell? w _ (by simpa [Addr.add] using hc0)
    refine ⟨b, off, cap, hbl, ?_, fun k hk => by rw [← addr_off]; exact each k hk⟩
    have := World.var?_cell g8 h3 0
    rw [this]
    have e4 : cs[0]? = cs.toList[0]? := by simp
    rw [e4, hcs]; rfl
/-- what the laid variables give -/
theorem tb_met {w : World} {l : List (String × DataW Unit)} (h : laidMet Tryz.prog l w) {r ds rs : List (DataW Unit)} (m1 : ("internal/strconv.optimize", .lit (.bool true)) ∈ l) (m2 : ("internal/strconv.float64info", .agg (.lit (.int .u64 52) :: r)) ∈ l) (m3 : ("internal/strconv.float64pow10", .slice ds rs) ∈ l)
    (hl : ds.length = 23) (hd : ∀ k, k < 10 → ds[k]? = some (.lit (.float .f64 (FloatKind.f64.nearest (10 ^ k : Nat))))) : TbB w.heap.size w := by
  obtain ⟨pb, po, cap, h1, h2, h3⟩ := pow_met (Lib.laidMet.reads h m3) hl hd
  exact ⟨opt_met (Lib.laidMet.reads h m1), inf_met (Lib.laidMet.reads h m2), ⟨pb, po, cap, h1, h2, h3⟩, lt_of_cell h2, Nat.le_refl _⟩
end Go.Proofs.YtppcofopnelgjaaGreatDoor
