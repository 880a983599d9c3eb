import Derived.Test.YtbgjggblaeadlaaRgP
import Derived.Test.YtbgjggblaeadlaaEnW
import Derived.Test.YtbgjggblaeadlaaAv
set_option linter.unusedVariables false
set_option linter.unusedSimpArgs false
namespace Go.Proofs.Ytbgjggblaeadlaa
open Go.RowKit
namespace X
open C F A
/-- lists copied into a box while an iterator tells them; and whether one of them was seen -/
structure Gw (V : World) (bl bf : Nat) (zs ps : List Int) (k : Nat) (gs : List Rw) (go : Option Addr) (gc : Nat) (fd : Bool) (M : Nat → Prop) (X : World) : Prop where
  t : Turn (fun j => j = bl ∨ j = bf) V X
  hb : X.heap[bl]? = some (.cells #[.slice go gs.length gc] 31 (0, 0))
  hf : X.heap[bf]? = some (.cells #[.bool fd] 4 (0, 0))
  row : X.ownsRow V.heap.size 23 1 (.slice go gs.length gc) gs.length (gs.map Rw.v)
  ls : ∀ (i : Nat) (r : Rw), gs[i]? = some r → ∃ l, Chn zs i l ∧ r.len = l.length ∧ Gr V.heap.size l r.ao r.cap X
  kl : gs.length = k
  nb : ¬ M bl
  nf : ¬ M bf
  no : ∀ j, At go j → ¬ M j
  nl : ∀ (i : Nat) (r : Rw), gs[i]? = some r → ∀ j, At r.ao j → ¬ M j
  lb : bl < V.heap.size
  lf : bf < V.heap.size
  sn : fd = true ↔ ∃ i, i < k ∧ Chn zs i ps
variable {V X X' : World} {bl bf : Nat} {zs ps : List Int} {k : Nat} {gs : List Rw} {go : Option Addr} {gc : Nat} {fd : Bool} {M M' : Nat → Prop}
theorem Gw.start (hb : V.heap[bl]? = some (.cells #[.slice none 0 0] 31 (0, 0))) (hf : V.heap[bf]? = some (.cells #[.bool false] 4 (0, 0))) (hM : ¬ M bl) (hN : ¬ M bf) : Gw V bl bf zs ps 0 [] none 0 false M V :=
  ⟨Turn.refl _ _, hb, hf, World.ownsRow_nil V _ 23 1, (fun i r h => by simp at h), rfl, hM, hN, (fun j h => by obtain ⟨_, q, _⟩ := h; cases q), (fun i r h => by simp at h), lt_of_heap hb, lt_of_heap hf, ⟨(fun h => by cases h), fun ⟨i, h, _⟩ => by omega⟩⟩
theorem Gw.gr (h : Gw V bl bf zs ps k gs go gc fd M X) {i : Nat} {r : Rw} (hr : gs[i]? = some r) {j : Nat} (hj : At r.ao j) : V.heap.size ≤ j ∧ j < X.heap.size ∧ ∃ cs q, X.heap[j]? = some (.cells cs 3 q) := by
  obtain ⟨l, _, _, g⟩ := h.ls i r hr
  obtain ⟨h1, _, cs, q, h2⟩ := row_kind g.row hj
  exact ⟨h1, lt_of_heap h2, cs, q, h2⟩
theorem Gw.qm (h : Gw V bl bf zs ps k gs go gc fd M X) (t : QM V.heap.size M X X') (hm : ∀ j, M' j → M j ∨ X.heap.size ≤ j) : Gw V bl bf zs ps k gs go gc fd M' X' := by
  have hlb := h.lb
  have hlf := h.lf
  have hz := h.t.size
  refine ⟨h.t.then t (fun i hi q => q.elim (fun q => by have := q.1; omega) (fun q => by have := q.2; omega)), (t.low hlb (Nat.lt_of_lt_of_le hlb hz)).trans h.hb, (t.low hlf (Nat.lt_of_lt_of_le hlf hz)).trans h.hf, row_qm h.row t h.no, fun i r hr => ?_, h.kl, fun q => (hm bl q).elim h.nb (fun q => by omega), fun q => (hm bf q).elim h.nf (fun q => by omega), fun j hj q => ?_, fun i r hr j hj q => ?_, hlb, hlf, h.sn⟩
  · obtain ⟨l, h1, h2, h3⟩ := h.ls i r hr
    exact ⟨l, h1, h2, ⟨row_qm h3.row t (h.nl i r hr)⟩⟩
  · rcases hm j q with q | q
    · exact h.no j hj q
    · obtain ⟨_, _, cs, qq, hh⟩ := row_kind h.row hj
      have := lt_of_heap hh
      omega
  · rcases hm j q with q | q
    · exact h.nl i r hr j hj q
    · have := (h.gr hr hj).2.1
      omega
theorem Gw.sub (h : Gw V bl bf zs ps k gs go gc fd M X) (hM : ∀ j, M' j → M j) : Gw V bl bf zs ps k gs go gc fd M' X := h.qm (QM.of (QT.refl _ _)) (fun j q => .inl (hM j q))
/-- one list more: it was copied (X2), the copy appended (X4), the box turned, and it was looked at (X5: nothing but draws) -/
theorem Gw.add (h : Gw V bl bf zs ps k gs go gc fd M X) (hml : ∀ j, M j → j < X.heap.size) {l : List Int} (hc : Chn zs k l) {ro : Option Addr} {rc : Nat} {X2 X4 X5 : World} (h2 : Turn (fun _ => False) X X2) (g2 : Gr X.heap.size l ro rc X2)
    {gg cc : Nat} (r4 : X4.ownsRow V.heap.size 23 1 (.slice (some ⟨gg, 0, none⟩) (gs.length + 1) cc) (gs.length + 1) (gs.map Rw.v ++ [.slice ro l.length rc])) (hg : (X2.alloc (.cells #[.slice ro l.length rc] 23)).grownBy X4 (Value.slice go gs.length gc).ownBlock) (hat : (Value.slice go gs.length gc).ownBlock = some gg ∨ X2.heap.size ≤ gg)
    (h5 : Turn (fun _ => False) (X4.setCell ⟨bl, 0, none⟩ (.slice (some ⟨gg, 0, none⟩) (gs.length + 1) cc)) X5) {fd' : Bool} (hfd : fd' = (fd || decide (l = ps))) :
    KeepsFrom V.heap.size X (X5.setCell ⟨bf, 0, none⟩ (.bool fd')) ∧ Gw V bl bf zs ps (k + 1) (gs ++ [⟨ro, l.length, rc⟩]) (some ⟨gg, 0, none⟩) cc fd' M (X5.setCell ⟨bf, 0, none⟩ (.bool fd')) ∧ (∀ j, M j → (X5.setCell ⟨bf, 0, none⟩ (.bool fd')).heap[j]? = X.heap[j]?) ∧ X4.heap[bl]? = some (.cells #[.slice go gs.length gc] 31 (0, 0)) ∧ X5.heap[bf]? = some (.cells #[.bool fd] 4 (0, 0)) := by
  have hlb := h.lb
  have hlf := h.lf
  have hz := h.t.size
  have hz2 := h2.size
  have hbf : bl ≠ bf := fun e => cells_ne h.hb h.hf (by decide) e
  have t0 : Turn (At go) X X4 := (h2.mono (fun _ _ q => q.elim)).trans (((Turn.refl _ X2).alloc _).grown hg (fun k hk _ => own_at hk))
  have hgo : ∀ j, At go j → V.heap.size ≤ j ∧ ∃ cs q, X.heap[j]? = some (.cells cs 23 q) := fun j hj => by
    obtain ⟨h1, _, cs, q, h2⟩ := row_kind h.row hj
    exact ⟨h1, cs, q, h2⟩
  have hbg : ¬ At go bl := fun q => by have := (hgo bl q).1; omega
  have hfg : ¬ At go bf := fun q => by have := (hgo bf q).1; omega
  have hgV : V.heap.size ≤ gg := by
    rcases hat with q | q
    · exact (hgo gg (own_at q)).1
    · omega
  have hb4 := (t0.block bl (lt_of_heap h.hb) hbg).trans h.hb
  have t1 : Turn (fun j => j = bl) X4 X5 := ((Turn.refl (fun j => j = bl) X4).setCell (p := ⟨bl, 0, none⟩) (fun _ => rfl) (.slice (some ⟨gg, 0, none⟩) (gs.length + 1) cc)).trans (h5.mono (fun _ _ q => q.elim))
  have hf4 := (t0.block bf (lt_of_heap h.hf) hfg).trans h.hf
  have hf5 := (t1.block bf (lt_of_heap hf4) (fun e => hbf e.symm)).trans hf4
  have hb5 : X5.heap[bl]? = some (.cells #[.slice (some ⟨gg, 0, none⟩) (gs.length + 1) cc] 31 (0, 0)) := (h5.block bl (by have := lt_of_heap (set_block (off := 0) (v := .slice (some ⟨gg, 0, none⟩) (gs.length + 1) cc) hb4); exact this) id).trans (set_block (off := 0) hb4)
  have t2 : Turn (fun j => j = bf) X5 (X5.setCell ⟨bf, 0, none⟩ (.bool fd')) := (Turn.refl (fun j => j = bf) X5).setCell (p := ⟨bf, 0, none⟩) (fun _ => rfl) (.bool fd')
  have tA : Turn (fun j => At go j ∨ j = bl ∨ j = bf) X (X5.setCell ⟨bf, 0, none⟩ (.bool fd')) := (t0.mono (fun k _ q => .inl q)).trans ((t1.mono (fun k _ q => .inr (.inl q))).trans (t2.mono (fun k _ q => .inr (.inr q))))
  have h3ne : ∀ j, (∃ cs q, X.heap[j]? = some (.cells cs 3 q)) → V.heap.size ≤ j → ¬ (At go j ∨ j = bl ∨ j = bf) := fun j ⟨cs, q, hj⟩ hV hq => by
    rcases hq with hq | hq | hq
    · obtain ⟨_, cs', q', h2⟩ := hgo j hq
      exact cells_ne hj h2 (by decide) rfl
    · omega
    · omega
  have hMn : ∀ j, M j → ¬ (At go j ∨ j = bl ∨ j = bf) := fun j hj hq => by
    rcases hq with hq | hq | hq
    · exact h.no j hq hj
    · rw [hq] at hj; exact h.nb hj
    · rw [hq] at hj; exact h.nf hj
  have hro : ∀ j, At ro j → X.heap.size ≤ j ∧ j < X2.heap.size ∧ ∃ cs q, X2.heap[j]? = some (.cells cs 3 q) := fun j hj => by
    obtain ⟨h1, _, cs, q, h2⟩ := row_kind g2.row hj
    exact ⟨h1, lt_of_heap h2, cs, q, h2⟩
  have tB : Turn (fun j => At go j ∨ j = bl ∨ j = bf) X2 (X5.setCell ⟨bf, 0, none⟩ (.bool fd')) := ((((Turn.refl (At go) X2).alloc (.cells #[.slice ro l.length rc] 23)).grown hg (fun k hk _ => own_at hk)).mono (fun k _ q => .inl q)).trans ((t1.mono (fun k _ q => .inr (.inl q))).trans (t2.mono (fun k _ q => .inr (.inr q))))
  have gN : Gr V.heap.size l ro rc (X5.setCell ⟨bf, 0, none⟩ (.bool fd')) := (g2.kept tB (fun j hj q => by
    have := (hro j hj).1
    rcases q with q | q | q
    · obtain ⟨_, cs, qq, hh⟩ := hgo j q; have := lt_of_heap hh; omega
    · have := lt_of_heap h.hb; omega
    · have := lt_of_heap h.hf; omega)).mono hz
  have spl : ∀ (i : Nat) (x : Rw), (gs ++ [(⟨ro, l.length, rc⟩ : Rw)])[i]? = some x → (i < gs.length ∧ gs[i]? = some x) ∨ (i = gs.length ∧ x = ⟨ro, l.length, rc⟩) := fun i x hx => by
    have hi := (List.getElem?_eq_some_iff.1 hx).1
    rw [List.length_append] at hi
    by_cases hlt : i < gs.length
    · rw [List.getElem?_append_left hlt] at hx
      exact .inl ⟨hlt, hx⟩
    · have : i = gs.length := by simp at hi; omega
      subst this
      rw [List.getElem?_append_right (Nat.le_refl _), Nat.sub_self] at hx
      simp at hx
      exact .inr ⟨rfl, hx.symm⟩
  have hlen : (gs ++ [(⟨ro, l.length, rc⟩ : Rw)]).length = gs.length + 1 := by rw [List.length_append]; rfl
  refine ⟨⟨tA.size, fun j o hB hj hcel => (tA.block j (lt_of_heap hj) (fun q => ?_)).trans hj⟩, ⟨?_, ?_, ?_, ?_, ?_, ?_, h.nb, h.nf, ?_, ?_, hlb, hlf, ?_⟩, fun j hj => tA.block j (hml j hj) (hMn j hj), hb4, hf5⟩
  · rcases q with q | q | q
    · obtain ⟨_, cs, qq, h2⟩ := hgo j q
      rw [hj] at h2
      cases h2
      cases hcel
    · omega
    · omega
  · exact h.t.then tA (fun i hi q => q.elim (fun q => by have := (hgo i q).1; omega) (fun q => q))
  · rw [hlen]; exact (t2.block bl (lt_of_heap hb5) hbf).trans hb5
  · rw [set_block (off := 0) hf5]; rfl
  · rw [hlen, List.map_append]
    have r5 : X5.ownsRow V.heap.size 23 1 (.slice (some ⟨gg, 0, none⟩) (gs.length + 1) cc) (gs.length + 1) (gs.map Rw.v ++ [.slice ro l.length rc]) := t1.row r4 (fun j hj q => by
      have : gg = j := by simpa [Value.ownBlock] using hj
      omega)
    exact t2.row r5 (fun j hj q => by
      have : gg = j := by simpa [Value.ownBlock] using hj
      omega)
  · intro i x hx
    rcases spl i x hx with ⟨_, g1⟩ | ⟨hi, rfl⟩
    · obtain ⟨l', q1, q2, q3⟩ := h.ls i x g1
      exact ⟨l', q1, q2, q3.kept tA (fun j hj => h3ne j (h.gr g1 hj).2.2 (h.gr g1 hj).1)⟩
    · exact ⟨l, by rw [hi, h.kl]; exact hc, rfl, gN⟩
  · rw [hlen, h.kl]
  · intro j hj q
    obtain ⟨_, e, rfl⟩ := hj
    cases e
    rcases hat with e | e
    · exact h.no gg (own_at e) q
    · have := hml gg q; omega
  · intro i x hx j hj q
    rcases spl i x hx with ⟨_, g1⟩ | ⟨_, e1⟩
    · exact h.nl i x g1 j hj q
    · rw [e1] at hj
      have := (hro j hj).1
      have := hml j q
      omega
  · rw [hfd, Bool.or_eq_true, decide_eq_true_eq, h.sn]
    constructor
    · rintro (⟨i, hi, q⟩ | q)
      · exact ⟨i, by omega, q⟩
      · exact ⟨k, by omega, by rw [← q]; exact hc⟩
    · rintro ⟨i, hi, q⟩
      by_cases e : i = k
      · subst e; exact .inr (hc.uniq q)
      · exact .inl ⟨i, by omega, q⟩
end X
end Go.Proofs.Ytbgjggblaeadlaa
