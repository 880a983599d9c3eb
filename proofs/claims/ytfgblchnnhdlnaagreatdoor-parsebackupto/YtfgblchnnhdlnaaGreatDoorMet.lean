import Derived.Test.YtfgblchnnhdlnaaGreatDoorGrD
import Derived.Lib.LaidU8
import Derived.FnData
import Derived.KernelRfl
set_option linter.unusedVariables false
set_option linter.unusedSimpArgs false
namespace Go.Proofs.YtfgblchnnhdlnaaGreatDoor
open Go.RowKit
theorem trod_float {H : Type} {enc : TypeId × Value → H} {P : Program} {w : World} {base : Nat} {spare : Nat → Bool} {held : Bool} {fuel : Nat} {t : TypeId} {cs : List Value} {x : DataW H × List MemPlace} {k : FloatKind}
    (ht : P.underlying t = some (.float k)) (h : DataW.trod enc P w base spare held fuel t cs = some x) : ∃ b, cs = [.float k b] ∧ x = (.lit (.float k b), []) := by
  cases fuel with
  | zero => simp [DataW.trod] at h
  | succ n =>
    unfold DataW.trod at h
    rw [ht] at h
    split at h <;> simp_all
theorem g4 : Tryz.prog.globalNamed "internal/strconv.optimize" = some 4 := by kernel_rfl
theorem g5 : Tryz.prog.globalNamed "internal/strconv.float64info" = some 5 := by kernel_rfl
theorem g8 : Tryz.prog.globalNamed "internal/strconv.float64pow10" = some 8 := by kernel_rfl
theorem gt4 : (Tryz.prog.globals[4]?).map (·.type) = some 4 := by kernel_rfl
theorem gt5 : (Tryz.prog.globals[5]?).map (·.type) = some 245 := by kernel_rfl
theorem gt8 : (Tryz.prog.globals[8]?).map (·.type) = some 284 := by kernel_rfl
theorem cells57 : Tryz.prog.cellsOf 57 = 1 := by kernel_rfl
theorem cells237 : Tryz.prog.cellsOf 237 = 1 := by kernel_rfl
theorem fields245 : ∃ (fs : Array Field) (f0 : Field), Tryz.prog.underlying 245 = some (.struct fs) ∧ fs[0]? = some f0 ∧ f0.offset = 0 ∧ f0.type = 237 := ⟨_, _, Tryz.underlying245, rfl, rfl, rfl⟩
theorem opt_met {w : World} (h : Lib.VarReads Tryz.prog w "internal/strconv.optimize" (.lit (.bool true))) : w.cell? ⟨4, 0, none⟩ = some (.bool true) := by
  obtain ⟨g, t, cs, fuel, p, h1, h2, h3, h4⟩ := h
  rw [g4] at h1
  cases h1
  rw [gt4] at h2
  cases h2
  obtain ⟨b, e1, e2⟩ := DataW.trod_bool Tryz.underlying4 h4
  cases e2
  have := World.var?_cell g4 h3 0
  rw [this]
  have : cs[0]? = cs.toList[0]? := by simp
  rw [this, e1]; rfl
theorem inf_met {w : World} {r : List (DataW Unit)} (h : Lib.VarReads Tryz.prog w "internal/strconv.float64info" (.agg (.lit (.int .u64 52) :: r))) : w.cell? ⟨5, 0, none⟩ = some (.int .u64 52) := by
  obtain ⟨g, t, cs, fuel, p, h1, h2, h3, h4⟩ := h
  rw [g5] at h1
  cases h1
  rw [gt5] at h2
  cases h2
  obtain ⟨fs, f0, hu, hf0, ho, hty⟩ := fields245
  obtain ⟨xs, n, _, hx, _, hxl, hall⟩ := DataW.trod_struct hu h4
  have h0 := hall 0 f0 hf0
  rw [ho, hty, cells237] at h0
  match xs, hx with
  | [], hx => simp at hx
  | x0 :: xs', hx =>
    simp only [List.getElem?_cons_zero] at h0
    obtain ⟨z, e1, e2, _⟩ := DataW.trod_int Tryz.underlying237 h0
    subst e2
    have e3 : z = 52 := by
      have := congrArg Prod.fst hx
      simp at this
      exact this.1.symm
    subst e3
    have := World.var?_cell g5 h3 0
    rw [this]
    have e4 : cs[0]? = cs.toList[0]? := by simp
    rw [e4]
    match hc : cs.toList, e1 with
    | [], e1 => simp at e1
    | c :: r', e1 => simp at e1; simp [e1]
theorem pow_met {w : World} {ds rs : List (DataW Unit)} (h : Lib.VarReads Tryz.prog w "internal/strconv.float64pow10" (.slice ds rs)) (hl : ds.length = 23) (hd : ∀ k, k < 10 → ds[k]? = some (.lit (.float .f64 (FloatKind.f64.nearest (10 ^ k : Nat))))) :
    ∃ pb po cap, pb < w.heap.size ∧ w.cell? ⟨8, 0, none⟩ = some (.slice (some ⟨pb, po, none⟩) 23 cap) ∧ ∀ k, k < 10 → w.cell? ⟨pb, po + k, none⟩ = some (.float .f64 (FloatKind.f64.nearest (10 ^ k : Nat))) := by
  obtain ⟨g, t, cs, fuel, p, h1, h2, h3, h4⟩ := h
  rw [g8] at h1
  cases h1
  rw [gt8] at h2
  cases h2
  rcases DataW.trod_slice Tryz.underlying284 h4 with ⟨_, hx⟩ | ⟨a, len, cap, elems, rest, n, _, hcs, hx, hb, hlc, hm, hel, hi, _, _⟩
  · have := congrArg Prod.fst hx
    simp at this
  · have hds : ds = elems.map (·.1) := by
      have := congrArg Prod.fst hx
      simp at this
      exact this.1
    have hlen : len = 23 := by rw [← hel, ← hl, hds, List.length_map]
    subst hlen
    have each : ∀ k, k < 10 → w.cell? (a.add k) = some (.float .f64 (FloatKind.f64.nearest (10 ^ k : Nat))) := by
      intro k hk
      have hh := hi k (by omega)
      rw [List.getElem?_eq_getElem (by omega), Option.bind_eq_some_iff, cells57] at hh
      obtain ⟨cs', q1, q2⟩ := hh
      obtain ⟨_, hlen', hcell⟩ := World.cells?_some q1
      obtain ⟨bb, e1, e2⟩ := trod_float Tryz.underlying57 q2
      have e3 := hd k hk
      rw [hds, List.getElem?_map, List.getElem?_eq_getElem (by omega : k < elems.length), e2] at e3
      simp at e3
      subst e3
      subst e1
      have := hcell 0 (by simp)
      rw [Nat.mul_one] at this
      have z : (a.add k).add 0 = a.add k := by
        generalize a.add k = q
        unfold Addr.add; simp
      rw [z] at this
      simpa using this
    have hc0 := each 0 (by omega)
    obtain ⟨b, off, spot⟩ := a
    have hspot : spot = none := by simpa [Addr.add] using World.cell?_spot hc0
    subst hspot
    have hbl : b < w.heap.size := World.block_lt_of_cell? w _ (by simpa [Addr.add] using hc0)
    refine ⟨b, off, cap, hbl, ?_, fun k hk => by rw [← addr_off]; exact each k hk⟩
    have := World.var?_cell g8 h3 0
    rw [this]
    have e4 : cs[0]? = cs.toList[0]? := by simp
    rw [e4, hcs]; rfl
/-- what the laid variables give -/
theorem tb_met {w : World} {l : List (String × DataW Unit)} (h : laidMet Tryz.prog l w) {r ds rs : List (DataW Unit)} (m1 : ("internal/strconv.optimize", .lit (.bool true)) ∈ l) (m2 : ("internal/strconv.float64info", .agg (.lit (.int .u64 52) :: r)) ∈ l) (m3 : ("internal/strconv.float64pow10", .slice ds rs) ∈ l)
    (hl : ds.length = 23) (hd : ∀ k, k < 10 → ds[k]? = some (.lit (.float .f64 (FloatKind.f64.nearest (10 ^ k : Nat))))) : TbB w.heap.size w := by
  obtain ⟨pb, po, cap, h1, h2, h3⟩ := pow_met (Lib.laidMet.reads h m3) hl hd
  exact ⟨opt_met (Lib.laidMet.reads h m1), inf_met (Lib.laidMet.reads h m2), ⟨pb, po, cap, h1, h2, h3⟩, lt_of_cell h2, Nat.le_refl _⟩
end Go.Proofs.YtfgblchnnhdlnaaGreatDoor
