import Derived.Test.YtfeehnfpfheojaaMem
import Derived.Maps.OwnSet
import Derived.Maps.Keyed
set_option linter.unusedVariables false
set_option linter.unusedSimpArgs false
namespace Go.Proofs.Ytfeehnfpfheojaa
open Go.RowKit Go.Maps Go.ChangeMaps Go.MapKept Go.WideShapes
namespace Oo
def okk (k : Int) : Prop := (Lit.int .i64 k).wf = true
def lit (k : Int) : Lit := .int .i64 k
theorem law : Keyed Try.prog 3 := int_keyed Try.underlying3
theorem hkey {k : Int} (h : okk k) : keyOf Try.prog 3 (.int .i64 k) = some (lit k) := keyOf_int_mk Try.underlying3 h
theorem isKey {k : Int} (h : okk k) : WideAt.IsKeyLit (lit k) := law.key (hkey h)
theorem inj {j k : Int} (h : lit j = lit k) : j = k := by unfold lit at h; cases h; rfl
theorem okk_of {k : Int} (h1 : -9223372036854775808 ≤ k) (h2 : k ≤ 9223372036854775807) : okk k := by
  simp [okk, Lit.wf, IntKind.min, IntKind.max, IntKind.bits, IntKind.signed]
  omega
def val (O : List (Int × Int)) (k : Int) : Int := match O.find? (fun p => p.1 == k) with | some p => p.2 | none => 0
def hasK (O : List (Int × Int)) (k : Int) : Bool := O.any (fun p => p.1 == k)
/-- BLOCK bm IS A MAP of just these entries -/
structure Om (bm : Nat) (O : List (Int × Int)) (w : World) : Prop where
  nd : O.Pairwise (fun p q => p.1 ≠ q.1)
  map : ∃ D : DataW Unit, w.ownsMap Try.prog 3 (plainElem Try.prog 3) bm O.length D ∧ (∀ k, okk k → D.atKey (lit k) (.lit (.int .i64 0)) = .lit (.int .i64 (val O k))) ∧ (∀ k, okk k → Maps.has D (lit k) = hasK O k) ∧ Maps.size D = O.length
variable {bm : Nat} {O : List (Int × Int)} {w w' : World}
theorem Om.lt (h : Om bm O w) : bm < w.heap.size := by obtain ⟨D, h1, _⟩ := h.map; exact h1.lt
theorem Om.kept {S : Nat → Prop} (h : Om bm O w) (t : Turn S w w') (hn : ¬ S bm) : Om bm O w' := by
  obtain ⟨D, h1, h2⟩ := h.map
  exact ⟨h.nd, D, t.map h1 hn, h2⟩
theorem Om.made (w : World) : Om w.heap.size [] (w.alloc (.map #[] 0)) :=
  ⟨.nil, .map [], World.ownsMap_made w Try.prog 3 _, fun k _ => rfl, fun k _ => rfl, rfl⟩
theorem Om.ne {c : Array Value} {t : Nat} {r : Nat × Nat} {x : Nat} (h : Om bm O w) (hx : w.heap[x]? = some (.cells c t r)) : bm ≠ x := by
  rintro rfl
  obtain ⟨D, ⟨es, cl, hb, _⟩, _⟩ := h.map
  rw [hx] at hb
  cases hb
/-- no more room is held than there are entries -/
theorem tight {P : Program} {k : TypeId} {R : Value → Option (DataW Unit × List MemPlace)} {b n : Nat} {D : DataW Unit} (h : w.ownsMap P k R b n D) : w.ownsMap P k R b (Maps.size D) D := by
  obtain ⟨es, clock, hb, F, hs, rfl⟩ := h
  refine ⟨es, clock, hb, F, ?_, rfl⟩
  rw [Maps.size_eq, length_sorted]
  simp
theorem zero3 (w : World) : (zeroValue 3).run Try.prog w = .ok (.int .i64 0) w := by kernel_rfl
theorem Om.look (h : Om bm O w) {k : Int} (hk : okk k) : (Instr.lookup 133 (.map (some bm)) (.int .i64 k) true).run Try.prog w = .ok (.tuple #[.int .i64 (val O k), .bool (hasK O k)]) w := by
  obtain ⟨D, h1, h2, h3, h4⟩ := h.map
  obtain ⟨v, ps, hrun, hv⟩ := h1.look_ok law Try.underlying133 (zero3 w) (zd := .lit (.int .i64 0)) (zp := []) (plainElem_int Try.underlying3 (by decide)) (hkey hk)
  rw [h2 k hk] at hv
  obtain ⟨c, rfl, hc, hwc⟩ := plainElem_int_inv Try.underlying3 hv
  simp only [Prod.mk.injEq] at hc
  have := hc.1
  cases this
  rw [hrun, h3 k hk]
theorem has_no {O : List (Int × Int)} {k : Int} (h : hasK O k = false) : ∀ p ∈ O, p.1 ≠ k := by
  intro p hp e
  have : hasK O k = true := List.any_eq_true.2 ⟨p, hp, by simpa using e⟩
  rw [h] at this
  cases this
theorem Om.put (h : Om bm O w) {k v : Int} (hk : okk k) (hv : okk v) (hno : hasK O k = false) (hl : O.length < 1000000) : ∃ w', (Instr.mapUpdate 133 (.map (some bm)) (.int .i64 k) (.int .i64 v)).run Try.prog w = .ok () w' ∧ Om bm ((k, v) :: O) w' ∧ Turn (fun j => j = bm) w w' ∧ w'.heap.size = w.heap.size := by
  have hlt := h.lt
  obtain ⟨D, h1, h2, h3, h4⟩ := h.map
  obtain ⟨w', hrun, r1, r2⟩ := h1.store law Try.underlying133 (by unfold maxLen; omega) (hkey hk) (plainElem_int Try.underlying3 hv)
  have td := h1.tidy law
  have im := h1.isMap
  have hs : Maps.size (D.put (lit k) (.lit (.int .i64 v))) = O.length + 1 := by rw [size_put td, h3 k hk, hno, h4]; rfl
  refine ⟨w', hrun, ⟨?_, D.put (lit k) (.lit (.int .i64 v)), ?_, fun j hj => ?_, fun j hj => ?_, hs⟩, ?_, ?_⟩
  · exact List.pairwise_cons.2 ⟨fun p hp e => has_no hno p hp e.symm, h.nd⟩
  · have := tight r1
    rw [hs] at this
    exact this
  · by_cases e : j = k
    · subst e
      rw [atKey_put_same im (isKey hk)]
      simp [val]
    · rw [atKey_put_other (fun q => e (inj q)), h2 j hj]
      have e' : (k == j) = false := by simpa using fun q => e q.symm
      simp [val, e']
  · by_cases e : j = k
    · subst e
      rw [has_put_same im (isKey hk)]
      simp [hasK]
    · rw [has_put_other (fun q => e (inj q)), h3 j hj]
      have e' : (k == j) = false := by simpa using fun q => e q.symm
      simp [hasK, e']
  · obtain ⟨es, clock, es', clock', hb, rfl⟩ := r2
    exact ⟨rfl, rfl, rfl, by simp [setBlock], fun i _ hi => heap_setBlock_other hb _ hi⟩
  · obtain ⟨es, clock, es', clock', hb, rfl⟩ := r2
    simp [setBlock]
def del (O : List (Int × Int)) (k : Int) : List (Int × Int) := O.filter (fun p => !(p.1 == k))
theorem del_val (O : List (Int × Int)) {k j : Int} (e : j ≠ k) : val (del O k) j = val O j ∧ hasK (del O k) j = hasK O j := by
  have hk : ∀ p : Int × Int, (p.1 == j) = true → (!(p.1 == k)) = true := fun p h => by simp at h ⊢; omega
  unfold val hasK del
  rw [find_filter_keep hk, any_filter_keep hk]
  exact ⟨rfl, rfl⟩
theorem del_no (O : List (Int × Int)) (k : Int) : val (del O k) k = 0 ∧ hasK (del O k) k = false := by
  have h : ∀ p ∈ del O k, (p.1 == k) = false := fun p hp => by
    have := (List.mem_filter.1 hp).2
    simpa using this
  have h2 : hasK (del O k) k = false := by
    unfold hasK
    rw [List.any_eq_false]
    intro p hp
    rw [h p hp]
    decide
  refine ⟨?_, h2⟩
  unfold val
  rw [List.find?_eq_none.2 (fun p hp => by rw [h p hp]; decide)]
theorem del_len {O : List (Int × Int)} (nd : O.Pairwise (fun p q => p.1 ≠ q.1)) {k : Int} (h : hasK O k = true) : (del O k).length + 1 = O.length := by
  induction O with
  | nil => cases h
  | cons a r ih =>
    obtain ⟨n1, n2⟩ := List.pairwise_cons.1 nd
    by_cases e : a.1 = k
    · have hr : del r k = r := List.filter_eq_self.2 (fun p hp => by have := n1 p hp; simp; omega)
      have : del (a :: r) k = r := by
        unfold del
        rw [List.filter_cons_of_neg (by simp [e])]
        exact hr
      rw [this]
      rfl
    · have hr : hasK r k = true := by
        unfold hasK at h ⊢
        have e' : (a.1 == k) = false := by simpa using e
        rw [List.any_cons, e', Bool.false_or] at h
        exact h
      have : del (a :: r) k = a :: del r k := by
        unfold del
        rw [List.filter_cons_of_pos (by simp [e])]
      rw [this, List.length_cons, List.length_cons, ih n2 hr]
/-- an entry taken away -/
theorem Om.dropped {n : Nat} {k : Int} (h : Om bm O w) (hk : okk k) (hyes : hasK O k = true) {D : DataW Unit} (h1 : w.ownsMap Try.prog 3 (plainElem Try.prog 3) bm O.length D) (h2 : ∀ k, okk k → D.atKey (lit k) (.lit (.int .i64 0)) = .lit (.int .i64 (val O k))) (h3 : ∀ k, okk k → Maps.has D (lit k) = hasK O k) (h4 : Maps.size D = O.length) (r1 : w'.ownsMap Try.prog 3 (plainElem Try.prog 3) bm n (D.del (lit k))) (r2 : w.mapTurned w' bm) : Om bm (del O k) w' ∧ Turn (fun j => j = bm) w w' ∧ w'.heap.size = w.heap.size := by
  have td := h1.tidy law
  have hs : Maps.size (D.del (lit k)) = (del O k).length := by
    have e1 := size_del (k := lit k) td
    rw [h3 k hk, hyes, h4, if_pos rfl] at e1
    have e2 := del_len h.nd hyes
    omega
  refine ⟨⟨h.nd.sublist List.filter_sublist, D.del (lit k), ?_, fun j hj => ?_, fun j hj => ?_, hs⟩, ?_, ?_⟩
  · have := tight r1
    rw [hs] at this
    exact this
  · by_cases e : j = k
    · subst e
      rw [atKey_del_same, (del_no O j).1]
    · rw [atKey_del_other (fun q => e (inj q)), h2 j hj, (del_val O e).1]
  · by_cases e : j = k
    · subst e
      rw [has_del_same, (del_no O j).2]
    · rw [has_del_other (fun q => e (inj q)), h3 j hj, (del_val O e).2]
  · obtain ⟨es, clock, es', clock', hb, rfl⟩ := r2
    exact ⟨rfl, rfl, rfl, by simp [setBlock], fun i _ hi => heap_setBlock_other hb _ hi⟩
  · obtain ⟨es, clock, es', clock', hb, rfl⟩ := r2
    simp [setBlock]
end Oo
end Go.Proofs.Ytfeehnfpfheojaa
