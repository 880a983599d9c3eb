import Derived.Test.YtihdagehenmolaaRws
import Derived.Lib.AppendStr
import Derived.Laws.IdiomStrings
import Derived.Laws.BytesArg
set_option linter.unusedVariables false
set_option linter.unusedSimpArgs false
namespace Go.Proofs.Ytihdagehenmolaa
open Go.RowKit
namespace K
open M
def ba (b : UInt8) : Array Value := #[.int .u8 (b.toNat : Int)]
theorem ha_b (q : UInt8) : (ba q).size = 1 := rfl
theorem one_b (x : UInt8) : ∀ u ∈ (ba x).toList, u.oneCell' = true := by simp [ba, Value.oneCell']
/-- bytes as a text -/
def sb (l : List UInt8) : ByteArray := ⟨l.toArray⟩
theorem sb_self (s : ByteArray) : sb s.data.toList = s := by cases s; simp [sb]
theorem sb_data (l : List UInt8) : (sb l).data.toList = l := by simp [sb]
theorem sb_size (l : List UInt8) : (sb l).size = l.length := by simp [sb, ByteArray.size]
theorem sb_inj {a b : List UInt8} (h : sb a = sb b) : a = b := by rw [← sb_data a, h, sb_data]
theorem sb_add (a b : List UInt8) : sb a ++ sb b = sb (a ++ b) := by
  apply ByteArray.ext
  simp [sb]
theorem cells_flat (s : List UInt8) : Lib.strCells (sb s) = flat ba s := by
  unfold Lib.strCells flat
  rw [sb_data]
  induction s with
  | nil => rfl
  | cons a r ih => rw [List.map_cons, List.flatMap_cons, ih]; rfl
theorem info5 : (Try.prog.info? 5).map (fun i => (i.zero, i.size, i.bytes)) = some (some (.int .u8 0), 1, 1) := by kernel_rfl
theorem ao_of {a b : Option Addr} {n m c d : Nat} {v w : World} (h : (Result.ok (Value.slice a n c) v : Result Value) = .ok (.slice b m d) w) : a = b := by
  simp only [Result.ok.injEq, Value.slice.injEq] at h
  exact h.1.1
/-- append of a text to bytes that are their holder's -/
theorem run_str {w : World} {B : Nat} {ro : Option Addr} {rc : Nat} {l : List UInt8} (hrow : Own 1 5 ba B (.slice ro l.length rc) l w) (t : List UInt8) (hl : l.length + t.length ≤ 140737488355328) (hB : B ≤ w.heap.size) (ty : TypeId) :
    ∃ ao' cap' w1, (Builtin.append_ #[60, 9] ty #[.slice ro l.length rc, .string (sb t)]).run Try.prog w = .ok (.slice ao' (l ++ t).length cap') w1 ∧ Own 1 5 ba B (.slice ao' (l ++ t).length cap') (l ++ t) w1 ∧ Turn (At ro) w w1 ∧ (∀ j, At ao' j → At ro j ∨ w.heap.size ≤ j) := by
  obtain ⟨i0, hi0, hz0, hz1, hz2⟩ := info_parts info5
  have hts := sb_size t
  obtain ⟨v', w', hr, h2, h3, h4⟩ := Lib.run_append_own_string (P := Try.prog) w B 60 9 ty 5 i0 Try.underlying60 Try.underlying9 hi0 hz0 hz1 hz2 (.slice ro l.length rc) l.length (flat ba l) hrow.row (sb t) (by rw [hts]; unfold maxLen; omega) (by rw [hts]; omega) hB
  rw [cells_flat, hts, ← flat_add, ← List.length_append] at h2
  have o2 : Own 1 5 ba B v' (l ++ t) w' := ⟨h2⟩
  obtain ⟨ao', cap', rfl, _, _, _⟩ := o2.form
  refine ⟨ao', cap', w', hr, o2, (Turn.refl _ w).grown h3 (fun k hk _ => own_at hk), fun j hj => ?_⟩
  rcases hrow.row.2 with ⟨hv, h0⟩ | ⟨g, cap, cur, hv, hb, hg, hnc, hcm, hcs, htake⟩
  · rw [hv] at hr h4
    by_cases hz : t.length = 0
    · have := h4.2 ⟨rfl, by omega⟩
      have e1 : ao' = none := by simp only [Value.slice.injEq] at this; exact this.1
      obtain ⟨_, q, _⟩ := hj
      rw [e1] at q
      cases q
    · have hr2 := run_append_nil_string (P := Try.prog) w 60 9 ty 5 i0 (.int .u8 0) Try.underlying60 Try.underlying9 hi0 hz0 (sb t) (by omega) (by omega) (by rw [hz2]; omega)
      have e1 := ao_of (hr.symm.trans hr2)
      obtain ⟨_, q, rfl⟩ := hj
      rw [e1] at q
      cases q
      exact .inr (Nat.le_refl _)
  · have hg' : ro = some ⟨g, 0, none⟩ ∧ rc = cap := by simp only [Value.slice.injEq] at hv; exact ⟨hv.1, hv.2.2⟩
    obtain ⟨rfl, rfl⟩ := hg'
    by_cases hroom : l.length + (sb t).size ≤ rc
    · have hr2 := Lib.run_append_room_string (P := Try.prog) w 60 9 ty 5 i0 Try.underlying60 Try.underlying9 hi0 hz1 g l.length rc cur hg (sb t) hroom (by omega)
      have e1 := ao_of (hr.symm.trans hr2)
      rw [e1] at hj
      exact .inl hj
    · have holds : ∀ j u, (flat ba l)[j]? = some u → w.cell? ((⟨g, 0, none⟩ : Addr).add j) = some u := hrow.row.cells (g := g) rfl
      have hr2 := Lib.run_append_grow_string (P := Try.prog) w 60 9 ty 5 i0 (.int .u8 0) Try.underlying60 Try.underlying9 hi0 hz0 ⟨g, 0, none⟩ l.length rc (flat ba l) (by rw [hz1, flat_len ha_b]) holds (sb t) (by omega) (by omega) (by rw [hz2]; exact growslice_fits (by omega) (by omega))
      have e1 := ao_of (hr.symm.trans hr2)
      obtain ⟨_, q, rfl⟩ := hj
      rw [e1] at q
      cases q
      exact .inr (Nat.le_refl _)
theorem wpList_str {w : World} {ops : Array Oper} {rest : List Oper} {o : Oper} {a : Go.Act} {Q : Exit → Go.Act → World → Prop} (hgd : o.guard = none) (s y : Operand)
    (ho : o.op = .call { callee := .builtin .append, args := #[s, y], argTypes := #[60, 9] }) {B : Nat} {ro : Option Addr} {rc : Nat} {l : List UInt8} (hrow : Own 1 5 ba B (.slice ro l.length rc) l w) (t : List UInt8) (hl : l.length + t.length ≤ 140737488355328) (hB : B ≤ w.heap.size) (hs : a.eval s = .slice ro l.length rc) (hx : a.eval y = .string (sb t))
    (hk : ∀ ao' cap' w1, Own 1 5 ba B (.slice ao' (l ++ t).length cap') (l ++ t) w1 → Turn (At ro) w w1 → (∀ j, At ao' j → At ro j ∨ w.heap.size ≤ j) → wpList Try.prog ops Q rest (a.put o.dst (.slice ao' (l ++ t).length cap')) w1) :
    wpList Try.prog ops Q (o :: rest) a w := by
  refine wpList_plain hgd fun K hK => ?_
  obtain ⟨ao', cap', w', hr, h2, h3, h4⟩ := run_str hrow t hl hB o.type
  unfold Oper.wp execOp
  simp only [ho, resolve, invoke, builtin, Sem.run_bind, Sem.run_pure, Result.andThen_ok, List.map_toArray, List.map_cons, List.map_nil, hs, hx, hr]
  exact hK _ _ (hk ao' cap' w' h2 h3 h4)
/-- bytes as a text: the first k of them -/
theorem conv {w : World} {B : Nat} {ao : Option Addr} {cap : Nat} {l : List UInt8} (h : Own 1 5 ba B (.slice ao l.length cap) l w) (k c : Nat) (hk : k ≤ l.length) : (convert 60 9 (.slice ao k c)).run Try.prog w = .ok (.string (sb (l.take k))) w := by
  rcases h.row.2 with ⟨hv, h0⟩ | ⟨g, cap', cur, hv, hb, hg, hnc, _⟩
  · obtain ⟨rfl, _⟩ : ao = none ∧ cap = 0 := by simp only [Value.slice.injEq] at hv; exact ⟨hv.1, hv.2.2⟩
    rw [run_convert_bytes_nil w 60 5 Try.underlying60 Try.underlying5 k c 9 Try.underlying9]
    have : l.take k = [] := by rw [List.length_eq_zero_iff.1 h0]; simp
    rw [this]; rfl
  · have hg' : ao = some ⟨g, 0, none⟩ := by simp only [Value.slice.injEq] at hv; exact hv.1
    subst hg'
    have hl : (l.take k).length = k := by rw [List.length_take]; omega
    have := run_convert_bytes_back (P := Try.prog) w 60 9 5 ⟨g, 0, none⟩ c (l.take k) Try.underlying60 Try.underlying5 Try.underlying9 (fun j hj => by
      have hj' : j < l.length := by omega
      rw [Inm.add_off, Nat.zero_add, h.row.cellAt j (by omega)]
      have := flat_at ha_b l j 0 l[j] (by omega) (List.getElem?_eq_getElem hj')
      rw [Nat.mul_one, Nat.add_zero] at this
      rw [this, List.getElem_take]
      rfl)
    rw [hl] at this
    exact this
end K
end Go.Proofs.Ytihdagehenmolaa
