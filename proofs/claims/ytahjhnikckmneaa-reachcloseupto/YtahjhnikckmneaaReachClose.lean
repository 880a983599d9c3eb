import Derived.Test.YtahjhnikckmneaaFrame
import Derived.Test.YtahjhnikckmneaaClW
import Derived.Deep.Matrix
set_option linter.unusedVariables false
set_option linter.unusedSimpArgs false
namespace Go.Proofs.Ytahjhnikckmneaa
namespace reachClose
open Go.ChangeShapes Go.WideShapes Go.ChangeAt Go.RowKit Go.Deep
theorem ints_of {W : World} {a : Addr} {zs : List Int} {len : Nat} (hl : len ≤ zs.length) (hcell : ∀ i, i < zs.length → W.cell? (a.add i) = some (.int .i64 (zs.getD i 0))) : I.Ints (some a) (zs.take len) W := by
  by_cases h0 : len = 0
  · subst h0; exact .inl rfl
  · have hc0 := hcell 0 (by omega)
    obtain ⟨b, off, spot⟩ := a
    have hspot : spot = none := by simpa [Addr.add] using World.cell?_spot hc0
    subst hspot
    have hbl : b < W.heap.size := World.block_lt_of_cell? W _ (by simpa [Addr.add] using hc0)
    refine .inr ⟨b, off, rfl, hbl, fun j k hj => ?_⟩
    have hjl : j < len := by have := (List.getElem?_eq_some_iff.1 hj).1; simp at this; omega
    have := hcell j (by omega)
    rw [I.add_off] at this
    rw [this]
    rw [List.getElem?_take_of_lt hjl] at hj
    simp [List.getD, hj]
theorem from_in {H : Type} {enc : TypeId × Value → H} {W : World} {a : Option Addr} {len cap : Nat} {d : DataW H} {ps : List MemPlace} {base : Nat} {held : Bool}
    (h : DataW.Trod enc Try.prog W base (fun _ => true) held 43 (.slice a len cap) d ps) : ∃ fr, I.Ints a fr W ∧ fr.length = len ∧ (fr.length ≤ cap ∧ (a = none → cap = 0)) ∧ (∀ k ∈ fr, I.okk k) ∧ fr.length < Rows.uptoBulk d := by
  obtain ⟨fuel, hf⟩ := h
  rcases open_ints Try.underlying43 Try.underlying3 (by kernel_rfl) hf with ⟨hcs, hx⟩ | ⟨x, l, c, zs, hcs, _, hl, hm, hz, hx, hcell, hwz⟩
  · simp [Value.cells] at hcs
    obtain ⟨rfl, rfl, rfl⟩ := hcs
    simp only [Prod.mk.injEq] at hx
    rw [hx.1]
    exact ⟨[], .inl rfl, rfl, ⟨Nat.le_refl _, fun _ => rfl⟩, by simp, by simp [Rows.uptoBulk]⟩
  · simp [Value.cells] at hcs
    obtain ⟨rfl, rfl, rfl⟩ := hcs
    have hlz : len ≤ zs.length := by rw [hz]; split <;> omega
    simp only [Prod.mk.injEq] at hx
    rw [hx.1]
    refine ⟨zs.take len, ints_of hlz hcell, by rw [List.length_take]; omega, ⟨by rw [List.length_take]; omega, fun e => by cases e⟩, fun k hk => hwz k (List.mem_of_mem_take hk), ?_⟩
    simp only [Rows.uptoBulk, bulk_lits]
    omega
theorem bulk_rows {H : Type} (A : Nat → Option Addr) (L : Nat → Nat) (Z : Nat → List Int) (hn : ∀ r, A r = none → L r = 0) : ∀ rs : List Nat, (rs.flatMap fun r => (Z r).take (L r)).length + rs.length ≤ Rows.uptoBulkAll (rs.map fun r => intRow (H := H) .i64 (A r) (L r) (Z r)) := by
  intro rs
  induction rs with
  | nil => simp [Rows.uptoBulkAll]
  | cons r rs ih =>
    have h1 : ((Z r).take (L r)).length + 1 ≤ Rows.uptoBulk (intRow (H := H) .i64 (A r) (L r) (Z r)) := by
      unfold intRow
      cases h : A r with
      | none => rw [hn r h]; simp [Rows.uptoBulk]
      | some a => simp only [Rows.uptoBulk, bulk_lits]; omega
    simp only [List.flatMap_cons, List.length_append, List.length_cons, List.map_cons, Rows.uptoBulkAll]
    omega
theorem table_in {H : Type} {enc : TypeId × Value → H} {W : World} {a : Option Addr} {len cap : Nat} {d : DataW H} {ps : List MemPlace} {base : Nat} {held : Bool}
    (h : DataW.Trod enc Try.prog W base (fun _ => true) held 44 (.slice a len cap) d ps) : ∃ tbl, I.Tbl a tbl (fun _ => False) W ∧ tbl.length = len ∧ tbl.length ≤ cap ∧ (∀ row ∈ tbl, ∀ k ∈ row, I.okk k) ∧ tbl.flatten.length + tbl.length < Rows.uptoBulk d := by
  obtain ⟨fuel, hf⟩ := h
  rcases open_int_rows Try.underlying44 Try.underlying43 Try.underlying3 (by kernel_rfl) (by kernel_rfl) hf with ⟨hcs, hx⟩ | ⟨x, l, c, A, L, C, Z, hcs, _, hl, hm, hx, hr⟩
  · simp [Value.cells] at hcs
    obtain ⟨rfl, rfl, rfl⟩ := hcs
    simp only [Prod.mk.injEq] at hx
    rw [hx.1]
    exact ⟨[], .inl rfl, rfl, Nat.le_refl _, by simp, by simp [Rows.uptoBulk]⟩
  · simp [Value.cells] at hcs
    obtain ⟨rfl, rfl, rfl⟩ := hcs
    simp only [Prod.mk.injEq] at hx
    rw [hx.1]
    refine ⟨(List.range len).map fun r => (Z r).take (L r), ?_, by simp, by simpa using hl, ?_, ?_⟩
    · by_cases h0 : len = 0
      · subst h0; exact .inl rfl
      · have hc0 := (hr 0 (by omega)).1
        obtain ⟨b, off, spot⟩ := x
        have hspot : spot = none := by simpa [Addr.add] using World.cell?_spot hc0
        subst hspot
        have hbl : b < W.heap.size := World.block_lt_of_cell? W _ (by simpa [Addr.add] using hc0)
        refine .inr ⟨b, off, rfl, hbl, id, fun i row q => ?_⟩
        have hil : i < len := by have := (List.getElem?_eq_some_iff.1 q).1; simpa using this
        rw [List.getElem?_map, List.getElem?_range hil] at q
        simp only [Option.map_some, Option.some.injEq] at q
        obtain ⟨r1, r2, r3, r4, r5, r6, r7⟩ := hr i (by omega)
        have hrl : row.length = L i := by rw [← q, List.length_take]; omega
        rw [I.add_off] at r1
        have hI : I.Ints (A i) row W := by
          rw [← q]
          cases hA : A i with
          | none => exact .inl (by rw [show L i = 0 by have := r6 hA; omega]; rfl)
          | some a' => exact ints_of (by omega) (fun j hj => (r7 a' hA).2 j (by omega))
        refine ⟨A i, C i, by rw [hrl]; exact r1, ⟨by omega, r6⟩, hI, fun hne b' off' e => ⟨id, ?_⟩⟩
        rcases hI with e' | ⟨b'', off'', e', h', _⟩
        · exact absurd e' hne
        · rw [e] at e'; cases e'; exact h'
    · intro row hrow k hk
      obtain ⟨r, hrm, rfl⟩ := List.mem_map.1 hrow
      have hrl : r < len := by simpa using hrm
      exact (hr r (by omega)).2.2.2.2.1 k (List.mem_of_mem_take hk)
    · have hb := bulk_rows (H := H) (fun r => if r < len then A r else none) (fun r => if r < len then L r else 0) Z (fun r e => by
        by_cases q : r < len
        · simp only [q, if_true] at e ⊢; have := (hr r (by omega)).2.2.2.2.2.1 e; have := (hr r (by omega)).2.1; omega
        · simp only [q, if_false]) (List.range len)
      have e1 : ((List.range len).flatMap fun r => (Z r).take (if r < len then L r else 0)) = ((List.range len).map fun r => (Z r).take (L r)).flatten := by
        rw [List.flatMap_def]
        congr 1
        refine List.map_congr_left (fun r hrm => ?_)
        rw [if_pos (by simpa using hrm)]
      have e2 : ((List.range len).map fun r => intRow (H := H) .i64 (if r < len then A r else none) (if r < len then L r else 0) (Z r)) = ((List.range len).map fun r => intRow (H := H) .i64 (A r) (L r) (Z r)) := by
        refine List.map_congr_left (fun r hrm => ?_)
        rw [if_pos (by simpa using hrm), if_pos (by simpa using hrm)]
      rw [e1, e2] at hb
      simp only [Rows.uptoBulk, List.length_map, List.length_range] at hb ⊢
      omega
theorem row_le {tbl : List (List Int)} {row : List Int} (h : row ∈ tbl) : row.length ≤ tbl.flatten.length := by
  induction tbl with
  | nil => simp at h
  | cons a r ih =>
    simp only [List.flatten_cons, List.length_append]
    rcases List.mem_cons.1 h with rfl | h
    · omega
    · have := ih h; omega
theorem small2 {H : Type} {d d2 : DataW H} (hk : Rows.uptoSmall H [d, d2] = true) : Rows.uptoBulk d + Rows.uptoBulk d2 ≤ 1048576 := by
  have hb : Rows.uptoBulkAll [d, d2] ≤ 1048576 := of_decide_eq_true hk
  simp only [Rows.uptoBulkAll] at hb
  omega
set_option maxRecDepth 100000 in
theorem contract (H : Type) (enc : TypeId × Value → H) (W : World) (base : Nat) (args : Array Value) (ds gs : List (DataW H)) (before : List MemPlace)
    (hval : ∀ (j : Nat) t v, Try.f7.params[j]? = some t → args[j]? = some v → Value.okWide Try.prog W .any base t v)
    (hW : DataW.Whole enc Try.prog Try.f7.params.toList Rows.reachCloseSpec.vars false W args.toList ds gs before) (hk : Rows.uptoSmall H (ds ++ gs) = true) :
    Calls Try.prog 7 args W fun e W' => ∃ v, e = .returned v ∧ Rows.reachCloseSpec.post enc Try.prog Try.f7 false true false false W args v W' := by
  have hW' := hW
  obtain ⟨p, q, hA0, hV, rfl, hfz, hnd⟩ := hW
  have hA : DataW.TrodAll enc Try.prog W 0 (fun _ => true) true Try.f7.params.toList args.toList ds p := hA0
  rw [Try.params7] at hA hval
  obtain ⟨v0, vs0, d0, ds0, p0, q0, hargs, rfl, rfl, h0, r0⟩ := trodAll_cons hA
  obtain ⟨v1, vs1, d1, ds1, p1, q1, rfl, rfl, rfl, h1, r1⟩ := trodAll_cons r0
  obtain ⟨rfl, rfl, rfl⟩ := trodAll_nil r1
  obtain rfl : args = #[v0, v1] := by cases args; simp_all
  obtain ⟨rfl, rfl⟩ := trodVars_none hV
  obtain ⟨a0, len0, cap0, rfl⟩ := okWide_slice Try.underlying43 (hval 0 43 v0 rfl rfl)
  obtain ⟨a1, len1, cap1, rfl⟩ := okWide_slice Try.underlying44 (hval 1 44 v1 rfl rfl)
  have k0 := h0
  have k1 := h1
  have lt0 : ∀ x ∈ p0, x.block < W.heap.size := by obtain ⟨m, hm⟩ := k0; exact DataW.trod_lt m _ _ _ hm
  have lt1 : ∀ x ∈ p1, x.block < W.heap.size := by obtain ⟨m, hm⟩ := k1; exact DataW.trod_lt m _ _ _ hm
  obtain ⟨fr, f1, f2, f3, f4, f5⟩ := from_in h0
  obtain ⟨tbl, t1, t2, t3, t4, t5⟩ := table_in h1
  simp only [List.append_nil] at hk
  have hb := small2 hk
  subst f2 t2
  clear hA0
  have e0 : (I.uni fr tbl).length = fr.length + tbl.flatten.length := List.length_append
  have e1 : (I.uni fr tbl).length ≤ 1048576 := by omega
  have e2 : tbl.length ≤ 1048576 := by omega
  have e3 : ∀ row ∈ tbl, row.length ≤ 1048576 := fun row hrow => by have := row_le hrow; omega
  refine (I.close_walk a0 cap0 fr a1 cap1 tbl W f1 f3 t1 t3 f4 t4 (hide' (And.intro e1 (And.intro e2 e3)))).mono fun e W' ⟨he, bel⟩ => ?_
  subst he
  exact ⟨_, rfl, _, _, _, [], _, [], hW', trodAll_mk1 (shut_bool Try.underlying4 _), (trodAll_cons_mk (Below.trod laidOut (by kernel_rfl) (of_decide_eq_true (by kernel_rfl)) k0 bel lt0) (trodAll_cons_mk (Below.trod laidOut (by kernel_rfl) (of_decide_eq_true (by kernel_rfl)) k1 bel lt1) trodAll_mk0)), rfl, bel.frame _, fun h => by cases h⟩

set_option maxRecDepth 100000 in
theorem lifted (os : Os) (started : os.Started) (H : Type) (enc : TypeId × Value → H) (F : Stop.Interp) :
    ReturnsInHanded {} Try.checked os 7 .any ((Rows.OpenSpec.upto Rows.reachCloseSpec).pre6 enc Try.prog Try.f7 Rows.reachCloseUptoRow.domain false) (((Rows.OpenSpec.upto Rows.reachCloseSpec).at F).post enc Try.prog Try.f7 false true false false) := by
  refine returnsInHanded_of_cond (C := Try.checked) (s := Rows.OpenSpec.upto Rows.reachCloseSpec) (k := Rows.uptoSmall) rfl own started (by kernel_rfl) Try.func7
    (OpenSpec.witness (enc := enc) (C := Try.checked) (s := Rows.OpenSpec.upto Rows.reachCloseSpec) (k := Rows.uptoSmall) rfl false ⟨#[], #[.slice none 0 0, .slice none 0 0], []⟩ 8 (by kernel_rfl) (by kernel_rfl) (by kernel_rfl)
      (x := ([.nil, .nil], [], [])) (by kernel_rfl) rfl (by kernel_rfl)) ?_
  intro W base args ds gs before hval hW _ hk _
  exact contract H enc W base args ds gs before hval hW hk

theorem over : Rows.ReachCloseUptoSaid :=
  OpenClaim.holds_of_cond 7 Try.f7 rfl rfl rfl rfl rfl rfl rfl ⟨rfl, rfl, rfl, rfl, rfl⟩ rfl rfl rfl rfl rfl (by kernel_rfl) Try.func7 (by kernel_rfl)
    (of_decide_eq_true (by kernel_rfl)) (by unfold Func.isWrapper; first | (rw [if_pos (by decide +kernel)]; kernel_rfl) | (rw [if_neg (by decide +kernel)]; exact ⟨rfl, rfl⟩))
    (fun os started H enc _ F => lifted os started H enc F)
end reachClose

theorem reachClose_holds : Rows.ReachCloseUptoSaid := reachClose.over
#print axioms reachClose_holds
end Go.Proofs.Ytahjhnikckmneaa
