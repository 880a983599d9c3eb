import Derived.Test.YtbbopkhgmgdlfaaRun
import Derived.Test.YtbbopkhgmgdlfaaEqs
set_option linter.unusedVariables false
set_option linter.unusedSimpArgs false
namespace Go.Proofs.Ytbbopkhgmgdlfaa
open Go.RowKit
namespace M
/-- an entry, played again -/
def Stp (l : List Int) (x : Ac) (l' : List Int) : Prop :=
  l'.length = l.length ∧ (x.good = true → 0 ≤ x.addr ∧ x.addr < (l.length : Int)) ∧
  ((x.kind = 1 ∧ x.value = std l x.addr ∧ l' = l) ∨
   ((x.kind = 2 ∨ x.kind = 3) ∧ x.old = std l x.addr ∧ (x.good = true → l' = l.set x.addr.toNat x.value) ∧ (x.good = false → l' = l)) ∨
   (x.kind = 4 ∧ x.old = std l x.addr ∧ (x.good = true → l' = l.set x.addr.toNat (wrap64 (std l x.addr + x.value))) ∧ (x.good = false → l' = l)))
theorem good_in {ws : List Int} {a : Int} (h : good ws a = true) : er ws a = 0 ∧ 0 ≤ a ∧ a < (ws.length : Int) := by
  have h0 : er ws a = 0 := of_decide_eq_true h
  obtain ⟨k, rfl, hk, _⟩ := er_zero h0
  exact ⟨h0, by omega, by omega⟩
theorem good_no {ws : List Int} {a : Int} (h : good ws a = false) : er ws a ≠ 0 := of_decide_eq_false h
theorem won_in {ws : List Int} {a o : Int} (h : won ws a o = true) : 0 ≤ a ∧ a < (ws.length : Int) := by
  have h0 : er ws a = 0 := by simp [won] at h; exact h.1
  obtain ⟨k, rfl, hk, _⟩ := er_zero h0
  exact ⟨by omega, by omega⟩
theorem stp_load (ws : List Int) (a : Int) : Stp ws ⟨1, a, std ws a, 0, good ws a⟩ ws := ⟨rfl, fun h => (good_in h).2, .inl ⟨rfl, rfl, rfl⟩⟩
theorem stp_store (ws : List Int) (a v : Int) : Stp ws ⟨2, a, v, std ws a, good ws a⟩ (put ws a v) :=
  ⟨put_len _ _ _, fun h => (good_in h).2, .inr (.inl ⟨.inl rfl, rfl, fun h => if_pos (good_in h).1, fun h => if_neg (good_no h)⟩)⟩
theorem stp_swap (ws : List Int) (a o v : Int) : Stp ws ⟨3, a, v, std ws a, won ws a o⟩ (swp ws a o v) :=
  ⟨swp_len _ _ _ _, fun h => won_in h, .inr (.inl ⟨.inr rfl, rfl, fun h => if_pos h, fun h => if_neg (by rw [show won ws a o = false from h]; decide)⟩)⟩
theorem stp_add (ws : List Int) (a v : Int) : Stp ws ⟨4, a, v, std ws a, good ws a⟩ (put ws a (wrap64 (std ws a + v))) :=
  ⟨put_len _ _ _, fun h => (good_in h).2, .inr (.inr ⟨rfl, rfl, fun h => if_pos (good_in h).1, fun h => if_neg (good_no h)⟩)⟩
/-- the trace, played again from 0, makes the words -/
def Trail (n : Nat) (tr : List Ac) (ws : List Int) : Prop := ∃ L : Nat → List Int, L 0 = List.replicate n 0 ∧ L tr.length = ws ∧ ∀ k z, tr[k]? = some z → Stp (L k) z (L (k + 1))
theorem Trail.nil (n : Nat) : Trail n [] (List.replicate n 0) := ⟨fun _ => List.replicate n 0, rfl, rfl, fun k z h => by simp at h⟩
theorem Trail.snoc {n : Nat} {tr : List Ac} {ws ws' : List Int} {z : Ac} (h : Trail n tr ws) (s : Stp ws z ws') : Trail n (tr ++ [z]) ws' := by
  obtain ⟨L, h0, h1, h2⟩ := h
  refine ⟨fun k => if k ≤ tr.length then L k else ws', by simpa using h0, (by simp only [List.length_append, List.length_cons, List.length_nil]; rw [if_neg (by omega)]), fun k y hk => ?_⟩
  by_cases hlt : k < tr.length
  · rw [List.getElem?_append_left hlt] at hk
    simp only [show k ≤ tr.length by omega, show k + 1 ≤ tr.length by omega, if_true]
    exact h2 k y hk
  · have he : k = tr.length := by
      have := (List.getElem?_eq_some_iff.1 hk).1
      simp at this
      omega
    subst he
    rw [List.getElem?_append_right (Nat.le_refl _)] at hk
    simp at hk
    subst hk
    simp only [Nat.le_refl, if_true, show ¬ tr.length + 1 ≤ tr.length by omega, if_false]
    rw [h1]
    exact s
theorem Trail.len {n : Nat} {tr : List Ac} {ws : List Int} (h : Trail n tr ws) : ws.length = n := by
  obtain ⟨L, h0, h1, h2⟩ := h
  have : ∀ k, k ≤ tr.length → (L k).length = n := by
    intro k
    induction k with
    | zero => intro _; rw [h0]; simp
    | succ k ih =>
      intro hk
      have := h2 k _ (List.getElem?_eq_getElem (show k < tr.length by omega))
      rw [this.1, ih (by omega)]
  rw [← h1]
  exact this _ (Nat.le_refl _)
theorem trail0 (n : Nat) (h : 1 ≤ n) : Trail n (tr0 n) (List.replicate n 0) := by
  obtain ⟨p1, p2, p3, p4, p5⟩ := made_pure n h
  have t1 := (Trail.nil n).snoc (stp_store (List.replicate n 0) ((n : Int) - 1) 5)
  have t2 := t1.snoc (stp_load _ ((n : Int) - 1))
  have t3 := t2.snoc (stp_store _ ((n : Int) - 1) 0)
  have e1 : good (List.replicate n 0) ((n : Int) - 1) = true := decide_eq_true p1
  have e2 : good (put (List.replicate n 0) ((n : Int) - 1) 5) ((n : Int) - 1) = true := decide_eq_true p3
  rw [e1, e2, p2, p4, p5] at t3
  exact t3
theorem below_drewN {B : Nat} {w w' : World} (b : Below B w w') (n : Nat) : Below B w (w'.drewN n) := ⟨b.os, b.tape, b.output, b.size, b.block⟩
theorem ints_block {w : World} {g : Nat} {ws : List Int} (h : w.heap[g]? = some (.cells (words ws) 3 (0, 0))) : Ints w (some ⟨g, 0, none⟩) ws := by
  refine .inr ⟨g, 0, rfl, lt_of_heap h, fun j hj => ?_⟩
  rw [Nat.zero_add, Lib.cell_of_heap h]
  exact words_at ws j hj
theorem ints_row {w : World} {B n rc : Nat} {ro : Option Addr} {zs : List Int} (h : w.ownsRow B 3 1 (.slice ro n rc) n (ivs zs)) (hn : zs.length = n) : Ints w ro zs := by
  by_cases h0 : 0 < n
  · obtain ⟨g, rfl, _, hl, _, hc⟩ := row_ints h hn h0
    exact .inr ⟨g, 0, rfl, hl, fun j hj => by rw [Nat.zero_add]; exact hc j (by omega)⟩
  · exact .inl (List.eq_nil_of_length_eq_zero (by omega))
theorem acs_at (tr : List Ac) : ∀ (k r : Nat) (z : Ac), r < 5 → tr[k]? = some z → (acs tr)[k * 5 + r]? = z.cells[r]? := by
  induction tr with
  | nil => intro k r z _ h; simp at h
  | cons a t ih =>
    intro k r z hr h
    rw [show acs (a :: t) = a.cells ++ acs t from rfl]
    have hl : a.cells.length = 5 := rfl
    cases k with
    | zero =>
      simp at h
      subst h
      rw [Nat.zero_mul, Nat.zero_add, List.getElem?_append_left (by omega)]
    | succ k =>
      rw [List.getElem?_append_right (by omega), hl, show (k + 1) * 5 + r - 5 = k * 5 + r by omega]
      exact ih k r z hr (by simpa using h)
theorem acs_cells {w : World} {B rc : Nat} {ro : Option Addr} {tr : List Ac} (h : w.ownsRow B 75 5 (.slice ro tr.length rc) tr.length (acs tr)) (h0 : 0 < tr.length) : ∃ g, ro = some ⟨g, 0, none⟩ ∧ B ≤ g ∧ g < w.heap.size ∧ tr.length ≤ rc ∧ ∀ k z, tr[k]? = some z → ∀ r, r < 5 → w.cell? ⟨g, k * 5 + r, none⟩ = z.cells[r]? := by
  obtain ⟨g, cap', hv, hb, hl⟩ := h.form h0
  simp only [Value.slice.injEq] at hv
  obtain ⟨rfl, _, rfl⟩ := hv
  refine ⟨g, rfl, hb, hl, ?_, fun k z hz r hr => ?_⟩
  · rcases h.2 with ⟨hv, _⟩ | ⟨g', cap', cur, hv, _, _, hc, _⟩
    · cases hv
    · simp only [Value.slice.injEq] at hv; omega
  have e := acs_at tr k r z hr hz
  obtain ⟨u, hu⟩ : ∃ u, z.cells[r]? = some u := ⟨_, List.getElem?_eq_getElem (by show r < 5; exact hr)⟩
  rw [hu] at e ⊢
  have := row_cell h _ u e
  rw [show (⟨g, 0, none⟩ : Addr).add (k * 5 + r) = ⟨g, k * 5 + r, none⟩ by unfold Addr.add; split <;> simp_all] at this
  exact this
theorem wrap_kk (k : Nat) (h : k < 2000000000000) : wrap64 ((k : Int) + 1) = (k : Int) + 1 := by unfold wrap64; omega
theorem vint_kk (k : Nat) (h : k < 2000000000000) : Value.int .i64 (wrap64 ((k : Int) + 1)) = .int .i64 ((k + 1 : Nat) : Int) := by rw [wrap_kk k h]; rfl
theorem few_k {k a b : Nat} (h : k < a) (hb : a ≤ b) (hc : b < 2000000000000) : k < 2000000000000 := by omega
end M
end Go.Proofs.Ytbbopkhgmgdlfaa
